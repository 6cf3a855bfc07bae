/- A DISK'S ROWS TURNED: some of them put in the place of some. -/
import Derived.Test.YtegniklofhopeaaFlD
import Derived.Test.YtegniklofhopeaaDkO
set_option maxRecDepth 100000
set_option linter.unusedVariables false
namespace Go.Proofs.Ytegniklofhopeaa.Dk
open Go.RowKit
open Mem

/-- two files' bytes lie apart -/
def Ap (a b : Fl.T) : Prop := ∀ g, (sl a.bytes).ownBlock = some g → (sl b.bytes).ownBlock ≠ some g
theorem Ap.symm {a b : Fl.T} (h : Ap a b) : Ap b a := fun g hb ha => h g ha hb
def Pb (P : Nat → Prop) (p : Nat) (v : Value) (r : Fl.T) : Prop := ∀ b, (sl r.bytes).ownBlock = some b → P b ∧ b ≠ p ∧ v.ownBlock ≠ some b
structure One (w : World) (r : Fl.T) (f : F) : Prop where
  name : r.name = f.name
  kept : r.kept = (f.kept : Int)
  own : By.Own w 0 (sl r.bytes) f.bs
section
variable {P Q : Nat → Prop} {w u : World} {p : Nat} {d : D} {v v' : Sl} {L : Int} {rs mr : List Fl.T} {fs mf : List F}
theorem EachF.one (h : EachF w rs fs) {i : Nat} {r : Fl.T} {f : F} (hr : rs[i]? = some r) (hf : fs[i]? = some f) : One w r f := by
  obtain ⟨h1, rfl⟩ := List.getElem?_eq_some_iff.1 hr
  obtain ⟨h2, rfl⟩ := List.getElem?_eq_some_iff.1 hf
  exact ⟨h.name i h1, h.kept i h1, h.own i h1⟩
theorem EachF.of (hl : rs.length = fs.length) (h : ∀ (i : Nat) r f, rs[i]? = some r → fs[i]? = some f → One w r f) : EachF w rs fs := by
  have k : ∀ i (hi : i < rs.length), One w rs[i] (fs[i]'(hl ▸ hi)) := fun i hi => h i _ _ (List.getElem?_eq_getElem hi) (List.getElem?_eq_getElem _)
  exact ⟨hl, fun i hi => (k i hi).name, fun i hi => (k i hi).kept, fun i hi => (k i hi).own⟩
theorem EachF.nil : EachF w [] [] := EachF.of rfl fun i r f hr => (by simp at hr)
theorem EachF.single {r : Fl.T} {f : F} (h : One w r f) : EachF w [r] [f] := EachF.of rfl fun i a b ha hb => by
  rcases i with _ | i
  · cases ha
    cases hb
    exact h
  · simp at ha
theorem EachF.app (h : EachF w rs fs) (k : EachF w mr mf) : EachF w (rs ++ mr) (fs ++ mf) := by
  refine EachF.of (by rw [List.length_append, List.length_append, h.len, k.len]) fun i r f hr hf => ?_
  rw [List.getElem?_append] at hr hf
  rw [h.len] at hr
  split at hr
  · rename_i c
    rw [if_pos c] at hf
    exact h.one hr hf
  · rename_i c
    rw [if_neg c] at hf
    exact k.one hr hf
theorem EachF.take (h : EachF w rs fs) (n : Nat) : EachF w (rs.take n) (fs.take n) := by
  refine EachF.of (by rw [List.length_take, List.length_take, h.len]) fun i r f hr hf => ?_
  rw [List.getElem?_take] at hr hf
  split at hr
  · rename_i c
    rw [if_pos c] at hf
    exact h.one hr hf
  · cases hr
theorem EachF.drop (h : EachF w rs fs) (n : Nat) : EachF w (rs.drop n) (fs.drop n) := by
  refine EachF.of (by rw [List.length_drop, List.length_drop, h.len]) fun i r f hr hf => ?_
  rw [List.getElem?_drop] at hr hf
  exact h.one hr hf
theorem aps_cut (h : rs.Pairwise Ap) {i j : Nat} (hij : i ≤ j) (hm : mr.Pairwise Ap) (hx : ∀ m ∈ mr, ∀ x ∈ rs.take i ++ rs.drop j, Ap m x) : (rs.take i ++ (mr ++ rs.drop j)).Pairwise Ap := by
  rw [List.pairwise_append]
  refine ⟨h.sublist (List.take_sublist _ _), List.pairwise_append.2 ⟨hm, h.sublist (List.drop_sublist _ _), fun m k x z => hx m k x (List.mem_append_right _ z)⟩, fun x k y z => ?_⟩
  rcases List.mem_append.1 z with z | z
  · exact (hx y z x (List.mem_append_left _ k)).symm
  · have h2 : (rs.take j ++ rs.drop j).Pairwise Ap := by rw [List.take_append_drop]; exact h
    have e : rs.take i = (rs.take j).take i := by rw [List.take_take, Nat.min_eq_left hij]
    rw [e] at k
    exact (List.pairwise_append.1 h2).2.2 x (List.mem_of_mem_take k) y z
theorem At.pbs (h : At P w p d v L rs) : ∀ r ∈ rs, Pb P p (sl v) r := fun r hr b e => by
  obtain ⟨i, hi, rfl⟩ := List.getElem_of_mem hr
  exact h.pb i hi b e
theorem At.aps (h : At P w p d v L rs) : rs.Pairwise Ap := List.pairwise_iff_getElem.2 fun i j hi hj hij => h.ap i j hi hj hij
theorem cut_mem {i j : Nat} {x : Fl.T} (h : x ∈ rs.take i ++ rs.drop j) : x ∈ rs := by
  rcases List.mem_append.1 h with h | h
  · exact List.mem_of_mem_take h
  · exact List.mem_of_mem_drop h
/-- rows i to j give their place to others -/
theorem At.turn (h : At P w p d v L rs) {L' : Int} {off : Bool} {left : Int} {i j : Nat} (hij : i ≤ j) (box : Box u p v' off (decide (0 ≤ left)) L') (arm : 0 ≤ left → L' = left) (rows : Fl.Own u 0 (sl v') (rs.take i ++ (mr ++ rs.drop j)))
    (kp : ∀ r ∈ rs.take i ++ rs.drop j, ∀ g, (sl r.bytes).ownBlock = some g → u.heap[g]? = w.heap[g]?) (mid : EachF u mr mf) (hP : ∀ b, P b → Q b)
    (pv : ∀ b, (sl v').ownBlock = some b → Q b ∧ b ≠ p) (vv : ∀ b, (sl v').ownBlock = some b → (sl v).ownBlock = some b ∨ w.heap.size ≤ b)
    (mpb : ∀ r ∈ mr, Pb Q p (sl v') r) (map : mr.Pairwise Ap) (mx : ∀ m ∈ mr, ∀ x ∈ rs.take i ++ rs.drop j, Ap m x)
    (ok : Ok ⟨d.fs.take i ++ (mf ++ d.fs.drop j), off, left⟩) (few : (d.fs.take i ++ (mf ++ d.fs.drop j)).length ≤ 1000) : At Q u p ⟨d.fs.take i ++ (mf ++ d.fs.drop j), off, left⟩ v' L' (rs.take i ++ (mr ++ rs.drop j)) := by
  have k1 : EachF u (rs.take i) (d.fs.take i) := (h.each.take i).keep fun a ha g e => kp _ (List.mem_append_left _ (List.getElem_mem ha)) g e
  have k2 : EachF u (rs.drop j) (d.fs.drop j) := (h.each.drop j).keep fun a ha g e => kp _ (List.mem_append_right _ (List.getElem_mem ha)) g e
  have hpb : ∀ r ∈ rs.take i ++ (mr ++ rs.drop j), Pb Q p (sl v') r := by
    have old : ∀ r ∈ rs, Pb Q p (sl v') r := fun r hr b e => by
      obtain ⟨a, b1, c⟩ := h.pbs r hr b e
      refine ⟨hP b a, b1, fun z => ?_⟩
      rcases vv b z with z | z
      · exact c z
      · obtain ⟨n, hn, rfl⟩ := List.getElem_of_mem hr
        have := (World.ownsRow.lt (h.each.own n hn) b e).2
        omega
    intro r hr
    rcases List.mem_append.1 hr with k | k
    · exact old r (List.mem_of_mem_take k)
    · rcases List.mem_append.1 k with k | k
      · exact mpb r k
      · exact old r (List.mem_of_mem_drop k)
  have hap := aps_cut h.aps hij map mx
  exact ⟨box, arm, rows, k1.app (mid.app k2), hP p h.pp, pv, fun n hn b e => hpb _ (List.getElem_mem hn) b e, fun a b ha hb hab => List.pairwise_iff_getElem.1 hap a b ha hb hab, ok, few⟩
theorem own_sl {x : Value} {B : Nat} {M : List Fl.T} (h : Fl.Own w B x M) : ∃ s : Sl, x = sl s := by
  rcases h.2 with ⟨e, _⟩ | ⟨g, cap, cur, e, _⟩
  · exact ⟨⟨none, 0, 0⟩, e⟩
  · exact ⟨⟨_, _, _⟩, e⟩
theorem Box.keep {off armed : Bool} (h : Box w p v off armed L) (k : u.heap[p]? = w.heap[p]?) : Box u p v off armed L := k.trans h
theorem Box.slice {off armed : Bool} (h : Box w p v off armed L) (v' : Sl) : Box (w.setCell ⟨p, 0, none⟩ (sl v')) p v' off armed L := (h.set 0 _).trans rfl
end
end Go.Proofs.Ytegniklofhopeaa.Dk
namespace Go.Proofs.Ytegniklofhopeaa
open Go.RowKit
open Mem Dk
section
variable {P : Nat → Prop} {w : World} {p : Nat} {d : D} {v : Sl} {L : Int} {rs : List Fl.T}
def Dk.DropE (P : Nat → Prop) (w : World) (p : Nat) (d : D) (v : Sl) (L : Int) (rs : List Fl.T) (s : ByteArray) (e : Ending) (w' : World) : Prop :=
  e = .returned (.tuple #[]) ∧ ∃ v', At P w' p ⟨del s d.fs, d.off, d.left⟩ v' L (rs.take (spot s d.fs) ++ rs.drop (spot s d.fs + 1)) ∧ (sl v').ownBlock = (sl v).ownBlock ∧ UpdQ (fun b => b = p ∨ (sl v).ownBlock = some b) w w'
theorem dk_drop (h : At P w p d v L rs) (s : ByteArray) (hh : has s d.fs = true) : Calls Try.prog 40 #[.pointer (some ⟨p, 0, none⟩), .int .i64 (spot s d.fs : Nat)] w (Dk.DropE P w p d v L rs s) := by
  have hn := h.n
  have hsp := spot_lt h.ok.sorted hh
  have HC := Lib.hid (Fl.delete_one w v.ao v.n v.cap (spot s d.fs) rs h.rows (by omega) (by rw [hn.1]; exact h.few))
  obtain ⟨c0, c1, c2, c3⟩ := h.box.cells
  have HE : Hid (∀ u (x : Sl), Fl.Own u 0 (sl x) (rs.take (spot s d.fs) ++ rs.drop (spot s d.fs + 1)) → (sl x).ownBlock = (sl v).ownBlock → UpdQ (fun b => (sl v).ownBlock = some b) w u → (u.frozen? ⟨p, 0, none⟩ = false ∧ (∃ c, u.cell? ⟨p, 0, none⟩ = some c)) ∧ Dk.DropE P w p d v L rs s (.returned (.tuple #[])) (u.setCell ⟨p, 0, none⟩ (sl x))) := Lib.hid fun u x ho hx hu => by
    have hp : ¬ (sl v).ownBlock = some p := fun z => (h.pv p z).2 rfl
    have hb := h.box.keep (hu.block p h.box.lt hp)
    have k : UpdQ (fun b => b = p ∨ (sl v).ownBlock = some b) u (u.setCell ⟨p, 0, none⟩ (sl x)) := UpdQ.set (Q := fun b => b = p ∨ (sl v).ownBlock = some b) u (.inl rfl) 0 _
    have k2 : UpdQ (fun b => b = p) u (u.setCell ⟨p, 0, none⟩ (sl x)) := UpdQ.set (Q := fun b => b = p) u rfl 0 _
    have hq := (hu.mono (R := fun b => b = p ∨ (sl v).ownBlock = some b) fun b z => .inr z).trans k
    refine ⟨⟨hb.frozen 0, ⟨_, hb.cells.1⟩⟩, rfl, x, ?_, hx, hq⟩
    have hdl := del_len h.ok.sorted hh
    refine At.turn h (mr := []) (mf := []) (i := spot s d.fs) (j := spot s d.fs + 1) (Nat.le_succ _) (hb.slice x) h.arm (k2.rows ho fun b e z => ?_) (fun r hr g e => ?_) EachF.nil (fun b z => z) (fun b e => h.pv b (hx ▸ e)) (fun b e => .inl (hx ▸ e)) (fun r hr => by cases hr) List.Pairwise.nil (fun m hm => by cases hm) (del_ok h.ok s) ?_
    · exact hp (by rw [← hx, e, z])
    · obtain ⟨n, hn', rfl⟩ := List.getElem_of_mem (cut_mem hr)
      have h1 := h.pb n hn' g e
      exact hq.block g (World.ownsRow.lt (h.each.own n hn') g e).2 fun z => z.elim h1.2.1 h1.2.2
    · have : (del s d.fs).length ≤ 1000 := by have := h.few; omega
      exact this
  have hsm : spot s d.fs < 1000 := by have := h.few; omega
  clear hsp
  generalize spot s d.fs = sp at HC HE hsm ⊢
  clear h hn hh
  go_enter Try.func40, Try.ntmps40
  go_wp2_with (go_at_call 52; refine HC.out.mono ?_)
  rintro e w1 ⟨v', rfl, ho, hx, hu⟩
  obtain ⟨x, rfl⟩ := own_sl ho
  obtain ⟨⟨e1, c, e2⟩, e3⟩ := HE.out w1 x ho hx hu
  have HF := Lib.hid e3
  clear ho hx hu e3 c0 c1 c2 c3
  unfold sl at HF ⊢
  go_wp2_with fail
  go_end0
  exact HF.out
end
end Go.Proofs.Ytegniklofhopeaa
