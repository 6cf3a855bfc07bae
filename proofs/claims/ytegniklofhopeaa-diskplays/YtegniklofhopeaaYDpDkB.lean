/- CONTRACTS OF PACKAGE disk: Names. -/
import Derived.Test.YtegniklofhopeaaZDp3
import Derived.Test.YtegniklofhopeaaYDpStA
set_option maxRecDepth 100000
set_option linter.unusedVariables false
namespace Go.Proofs.Ytegniklofhopeaa
open Go.RowKit
open Mem Dk
def Dk.names (fs : List F) : List ByteArray := fs.map F.name
def Dk.NamesE (w : World) (fs : List F) (e : Ending) (w' : World) : Prop := ∃ v,e = .returned v ∧ St.Own w' w.heap.size v (names fs) ∧ Below w.heap.size w w'
theorem Dk.names_take {fs : List F} {k : Nat} (h : k < fs.length) : names (fs.take (k + 1)) = names (fs.take k) ++ [fs[k].name] := by
 unfold names
 rw [List.take_succ_eq_append_getElem h,List.map_append]
 rfl
set_option maxHeartbeats 2000000 in
theorem dk_names {P : Nat → Prop} {w : World} {p : Nat} {d : D} {v : Sl} {L : Int} {rs : List Fl.T} (h : At P w p d v L rs) :
  Calls Try.prog 18 #[.pointer (some ⟨p,0,none⟩)] w (NamesE w d.fs) := by
 have HA := Lib.hid h
 have HL := Lib.hid h.ls
 have HBx := Lib.hid h.box
 obtain ⟨c0,c1,c2,c3⟩ := h.box.cells
 obtain ⟨n1,n2,n3,n4⟩ := h.n
 have HN := Lib.hid n4
 have HN1 := Lib.hid n1
 obtain ⟨ao,n,cap⟩ := v
 simp only at c0 n2 n3 HN HN1
 have hfew : n ≤ 1000 := by
  have h1 := h.few
  have h2 := HN1.out
  omega
 have hmk := St.make_cap n hfew w
 have c0' : (w.alloc (.cells (St.zeros n) 9)).cell? ⟨p,0,none⟩ = some (.slice ao n cap) := by
  rw [(bcell ((Below.refl w.heap.size w).alloc (Nat.le_refl _) _)).1 _ _ h.box.lt]
  exact c0
 have HO0 := Lib.hid (St.own_cap w w.heap.size n (Nat.le_refl _) hfew)
 have HB0 := Lib.hid ((Below.refl w.heap.size w).alloc (Nat.le_refl _) (.cells (St.zeros n) 9))
 clear h n1 n4
 go_enter Try.func18,Try.ntmps18
 go_wp2_with fail
 clear c0 c1 c2 c3 hmk c0'
 go_loopw [3,5,17] (fun t _ j wr => ∃ k : Nat,k ≤ n ∧ j = .int .i64 k ∧ Hid (St.Own wr w.heap.size t (names (d.fs.take k))) ∧ Hid (Below w.heap.size w wr)) (fun _ _ j _ => n - (intOf j).toNat)
 case atStart => exact ⟨0,by omega,rfl,HO0,HB0⟩
 case round =>
  rename World => wz
  obtain ⟨k,hk,rfl,HT,HB⟩ := hrel
  by_cases hlt : k < n
  ·
   obtain ⟨b,off,rfl⟩ := HL.out.at (by omega)
   have hkr : k < rs.length := HN.out ▸ hlt
   have hkf : k < d.fs.length := HA.out.each.len ▸ hkr
   have hrow := (HL.out.row k hkr).below HB.out
   have HS := Lib.hid (Dk.names_take hkf)
   have HNm := Lib.hid (HA.out.each.name k hkr)
   obtain ⟨r,hr⟩ : ∃ r,rs[k] = r := ⟨_,rfl⟩
   rw [hr] at hrow HNm
   clear hr
   obtain ⟨g0,g1,g2⟩ := hrow
   obtain ⟨W,hW,hbW,hA⟩ := Fl.boxed1 wz r
   have HBW := Lib.hid (bchain HB.out hbW)
   have HOW := Lib.hid (HT.out.below hbW)
   have hle : Hid ((names (d.fs.take k)).length ≤ 100000) := Lib.hid (by
    unfold names
    rw [List.length_map,List.length_take]
    omega)
   unfold Fl.C at hA
   obtain ⟨a0,a1,a2⟩ := hA
   clear hbW HT HB
   go_wp2_with (at_builtin; go_must (refine St.app W r.name rfl (.tmp 21) (.tmp 24) rfl w.heap.size _ (names (d.fs.take k)) rfl HOW.out rfl hle.out HBW.out.size ?_))
   intro v' w1 ho gr
   have HO1 : Hid (St.Own w1 w.heap.size v' (names (d.fs.take (k + 1)))) := Lib.hid (by rw [HS.out,← HNm.out]; exact ho)
   have HB1 : Hid (Below w.heap.size w w1) := Lib.hid ((HBW.out.alloc HBW.out.size _).grown gr (by have := HBW.out.size; simp; omega) (St.own_ge HOW.out))
   clear ho gr
   go_wp2_with fail
   go_roundw
   case rel => exact ⟨k + 1,by omega,by go_num,HO1,HB1⟩
   case measure => simp [intOf]; omega
  ·
   obtain rfl : k = n := by omega
   have HM : Hid (names (d.fs.take k) = names d.fs) := Lib.hid (by
    rw [List.take_of_length_le (by have := HN1.out; omega)])
   have HF : Hid (St.Own wz w.heap.size _ (names d.fs)) := Lib.hid (by rw [← HM.out]; exact HT.out)
   clear HT
   go_wp2_with fail
   go_ret
   exact ⟨_,rfl,HF.out,HB.out⟩
theorem s_names {P : Nat → Prop} {w0 w : World} {p : Nat} {d : D} (h : S P w0 w p d) : Calls Try.prog 18 #[.pointer (some ⟨p,0,none⟩)] w (NamesE w d.fs) := by
 obtain ⟨v,L,rs,k⟩ := h.dsk
 exact dk_names k
theorem s_total {P : Nat → Prop} {w0 w : World} {p : Nat} {d : D} (h : S P w0 w p d) : Calls Try.prog 19 #[.pointer (some ⟨p,0,none⟩)] w fun e w' => e = .returned (.int .i64 (total d.fs : Nat)) ∧ Below w.heap.size w w' := by
 obtain ⟨v,L,rs,k⟩ := h.dsk
 exact dk_total k
end Go.Proofs.Ytegniklofhopeaa
