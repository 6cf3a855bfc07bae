/- THE DOCUMENT's OWN DISK: Read, Names, make, Remove. -/
import Derived.Test.YtegniklofhopeaaYDpDrL
import Derived.Deep.RegionHeld3
set_option maxRecDepth 100000
set_option linter.unusedVariables false
namespace Go.Proofs.Ytegniklofhopeaa
open Go.RowKit
open Mem Dk
section
variable {P : Nat → Prop} {w : World} {p : Nat} {d : D} {v : Sl} {rs : List Rq.T}
def Dr.ReadE (w : World) (d : D) (s : ByteArray) (e : Ending) (w' : World) : Prop :=
 w' = w ∧ ((has s d.fs = false ∧ e = .returned (.tuple #[.slice none 0 0,.bool false])) ∨ (has s d.fs = true ∧ ∃ ao n cap,e = .returned (.tuple #[.slice ao n cap,.bool true]) ∧ By.Ls w ao n cap (Dk.own s d.fs).bs))
set_option maxHeartbeats 2000000 in
theorem dr_read (h : Dr.At P w p d v rs) (s : ByteArray) : Calls Try.prog 33 #[.pointer (some ⟨p,0,none⟩),.string s] w (Dr.ReadE w d s) := by
 have CA := Lib.hid (dr_at h s)
 obtain ⟨c0,c1,c2⟩ := h.box.cells
 cases hh : has s d.fs
 ·
  rw [Dr.atI_no hh] at CA
  have HE : Hid (Dr.ReadE w d s (.returned (.tuple #[.slice none 0 0,.bool false])) w) := Lib.hid ⟨rfl,.inl ⟨hh,rfl⟩⟩
  clear h hh
  go_enter Try.func33,Try.ntmps33
  go_wp2_with (go_at_call 44; refine CA.out.mono ?_; rintro e u ⟨rfl,hu⟩; rw [hu]; clear hu u CA)
  go_ret2
  exact HE.out
 ·
  rw [Dr.atI_yes hh] at CA
  obtain ⟨hk,one,g,hg,_⟩ := h.spot hh
  have hn := h.n
  have hat := (Rq.own_at (show Rq.Own w 0 (.slice (some ⟨g,0,none⟩) v.n v.cap) rs from by have := h.rows; unfold sl at this; rw [hg] at this; exact this) _ hk).1
  rw [hg] at c0
  obtain ⟨ao,cap,e1,l1,_⟩ := By.own_ls one.own
  unfold sl at e1
  simp only [Value.slice.injEq] at e1
  obtain ⟨r,hr⟩ : ∃ r,rs[Dk.spot s d.fs] = r := ⟨_,rfl⟩
  rw [hr] at hat e1
  obtain ⟨e11,e12,e13⟩ := e1
  have HE : Hid (Dr.ReadE w d s (.returned (.tuple #[.slice r.bytes.ao r.bytes.n r.bytes.cap,.bool true])) w) := Lib.hid ⟨rfl,.inr ⟨hh,_,_,_,rfl,by rw [e11,e12,e13]; exact l1⟩⟩
  have hlt : Dk.spot s d.fs < v.n := by omega
  obtain ⟨n2,n3⟩ := And.intro hn.2.1 hn.2.2.1
  generalize Dk.spot s d.fs = k at *
  obtain ⟨g0,g1,g2⟩ := hat
  clear h hh hk one hn e11 e12 e13 l1 hr
  go_enter Try.func33,Try.ntmps33
  go_wp2_with (go_at_call 44; refine CA.out.mono ?_; rintro e u ⟨rfl,hu⟩; rw [hu]; clear hu u CA)
  go_ret2
  exact HE.out
set_option maxHeartbeats 2000000 in
theorem dr_names (h : Dr.At P w p d v rs) :
  Calls Try.prog 29 #[.pointer (some ⟨p,0,none⟩)] w (NamesE w d.fs) := by
 have HA := Lib.hid h
 have HL := Lib.hid h.ls
 obtain ⟨c0,c1,c2⟩ := h.box.cells
 have HLt := Lib.hid h.box.lt
 obtain ⟨n1,n2,n3,n4⟩ := h.n
 have HN := Lib.hid n4
 have HN1 := Lib.hid n1
 obtain ⟨ao,n,cap⟩ := v
 simp only at c0 n2 n3 HN HN1
 have HC0 := Lib.hid c0
 have hfew : n ≤ 1000 := by
  have h1 := h.few
  have h2 := HN1.out
  omega
 clear h n1 n4 c0 c1 c2
 go_enter Try.func29,Try.ntmps29
 go_wp2_with fail
 go_loopw [3,4] (fun t j wr => ∃ k : Nat,k ≤ n ∧ j = .int .i64 k ∧ Hid (St.Own wr w.heap.size t (names (d.fs.take k))) ∧ Hid (Below w.heap.size w wr)) (fun _ j _ => n - (intOf j).toNat)
 case atStart => exact ⟨0,by omega,rfl,Lib.hid (St.own_nil _ _),Lib.hid (Below.refl _ _)⟩
 case round =>
  rename World => wz
  obtain ⟨k,hk,rfl,HT,HB⟩ := hrel
  have c0 := ((bcell HB.out).1 _ 0 HLt.out).trans HC0.out
  by_cases hlt : k < n
  ·
   obtain ⟨b,off,rfl⟩ := HL.out.at (by omega)
   have hkr : k < rs.length := HN.out ▸ hlt
   have hkf : k < d.fs.length := HA.out.each.len ▸ hkr
   have hrow := (HL.out.row k hkr).below HB.out
   have HS := Lib.hid (Dk.names_take hkf)
   have HNm := Lib.hid (HA.out.each.name k hkr)
   obtain ⟨r,hr⟩ : ∃ r,rs[k] = r := ⟨_,rfl⟩
   rw [hr] at hrow HNm
   clear hr
   obtain ⟨g0,g1,g2⟩ := hrow
   have hle : Hid ((names (d.fs.take k)).length ≤ 100000) := Lib.hid (by
    unfold names
    rw [List.length_map,List.length_take]
    omega)
   go_wp2_with (at_builtin; go_must (refine St.app wz r.name rfl (.tmp 14) (.tmp 23) rfl w.heap.size _ (names (d.fs.take k)) rfl HT.out rfl hle.out HB.out.size ?_))
   intro v' w1 ho gr
   have HO1 : Hid (St.Own w1 w.heap.size v' (names (d.fs.take (k + 1)))) := Lib.hid (by rw [HS.out,← HNm.out]; exact ho)
   have HB1 : Hid (Below w.heap.size w w1) := Lib.hid ((HB.out.alloc HB.out.size _).grown gr (by have := HB.out.size; simp; omega) (St.own_ge HT.out))
   clear ho gr HT HB c0 g0 g1 g2
   go_wp2_with fail
   go_roundw
   case rel => exact ⟨k + 1,by omega,by go_num,HO1,HB1⟩
   case measure => simp [intOf]; omega
  ·
   obtain rfl : k = n := by omega
   have HF : Hid (St.Own wz w.heap.size _ (names d.fs)) := Lib.hid (by
    have e := HT.out
    rw [List.take_of_length_le (by have := HN1.out; omega)] at e
    exact e)
   clear HT
   go_wp2_with fail
   go_ret
   exact ⟨_,rfl,HF.out,HB.out⟩
def Dr.OpE (P : Nat → Prop) (w : World) (p : Nat) (x : Int × D) (e : Ending) (w' : World) : Prop := e = .returned (.int .i64 x.1) ∧ Dr.Dsk (nw P w) w' p x.2 ∧ UpdQ P w w'
theorem Dr.all_ins (h : Dr.At P w p d v rs) {s : ByteArray} : Dr.All w ([] ++ rs.take (Dk.spot s d.fs) ++ [⟨s,⟨none,0,0⟩,0⟩] ++ rs.drop (Dk.spot s d.fs)) (ins ⟨s,[],0⟩ d.fs) := by
 have a := Dr.all_of h.each
 unfold ins
 rw [List.nil_append,List.append_assoc,List.singleton_append]
 exact (a.take _).app ⟨⟨rfl,rfl,By.own_nil _ _⟩,a.drop _⟩
theorem Dr.mem_ins {k : Nat} {s : ByteArray} : ∀ r ∈ ([] ++ rs.take k ++ [⟨s,⟨none,0,0⟩,0⟩] ++ rs.drop k : List Rq.T),r ∈ rs ∨ (sl r.bytes).ownBlock = none := by
 intro r hr
 rw [List.nil_append] at hr
 rcases List.mem_append.1 hr with hr | hr
 ·
  rcases List.mem_append.1 hr with hr | hr
  · exact .inl (List.mem_of_mem_take hr)
  ·
   rw [List.mem_singleton.1 hr]
   exact .inr rfl
 · exact .inl (List.mem_of_mem_drop hr)
theorem Dr.all_del (h : Dr.At P w p d v rs) {s : ByteArray} : Dr.All w ([] ++ rs.take (Dk.spot s d.fs) ++ rs.drop (Dk.spot s d.fs + 1)) (del s d.fs) := by
 have a := Dr.all_of h.each
 unfold del
 rw [List.nil_append]
 exact (a.take _).app (a.drop _)
theorem Dr.mem_del {k : Nat} : ∀ r ∈ ([] ++ rs.take k ++ rs.drop (k + 1) : List Rq.T),r ∈ rs ∨ (sl r.bytes).ownBlock = none := by
 intro r hr
 rw [List.nil_append] at hr
 rcases List.mem_append.1 hr with hr | hr
 · exact .inl (List.mem_of_mem_take hr)
 · exact .inl (List.mem_of_mem_drop hr)
theorem Dk.ins_ok {d : D} (h : Ok d) {s : ByteArray} (hn : s.size ≤ 24) (hh : has s d.fs = false) : Ok ⟨ins ⟨s,[],0⟩ d.fs,d.off,d.left⟩ := by
 have e : put ⟨s,[],0⟩ d.fs = ins ⟨s,[],0⟩ d.fs := if_neg (by rw [show has _ d.fs = false from hh]; exact Bool.false_ne_true)
 have ht := total_put (f := ⟨s,[],0⟩) h.sorted
 have := put_ok h (f := ⟨s,[],0⟩) (Nat.zero_le _) hn (by have := h.room; simp only [List.length_nil] at ht; omega)
 rw [e] at this
 exact this
end
end Go.Proofs.Ytegniklofhopeaa
