/- impostlaw16's call: a call on both disks has the same answer, and leaves both with the same files. (By gends.py.) -/
import Derived.Test.YtegniklofhopeaaYDpDsA
import Derived.Test.YtegniklofhopeaaYDpDrG
import Derived.Test.YtegniklofhopeaaYDpDrN
import Derived.Test.YtegniklofhopeaaYDpDrO
import Derived.Deep.RegionHeld3
set_option maxRecDepth 100000
set_option linter.unusedVariables false
namespace Go.Proofs.Ytegniklofhopeaa
open Go.RowKit
open Mem Dk
section
variable {R : Nat → Prop} {w : World} {q : Nat} {d : D}
theorem r_append (h : Dr.Dsk R w q d) (s : ByteArray) (hs : s.size ≤ 9223372036854775807) (ao : Option Addr) (n cap : Nat) (zs : List UInt8) (hL : By.Ls w ao n cap zs) (hap : zs ≠ [] → ∀ ad,ao = some ad → ¬ R ad.block) (hm : n ≤ 140737488351232) (few : d.fs.length < 1000) : Calls Try.prog 20 #[.pointer (some ⟨q,0,none⟩),.string s,.slice ao n cap] w (Dr.OpE R w q (appD d s zs)) := by
 obtain ⟨v,rs,a⟩ := h
 exact dr_append a s hs ao n cap zs hL hap hm few
theorem r_sync (h : Dr.Dsk R w q d) (s : ByteArray) : Calls Try.prog 21 #[.pointer (some ⟨q,0,none⟩),.string s] w (Dr.OpE R w q (syncD d s)) := by
 obtain ⟨v,rs,a⟩ := h
 exact dr_sync a s
theorem r_cut (h : Dr.Dsk R w q d) (s : ByteArray) (n : Int) (hn : Fit n) : Calls Try.prog 23 #[.pointer (some ⟨q,0,none⟩),.string s,.int .i64 n] w (Dr.OpE R w q (cutD d s n)) := by
 obtain ⟨v,rs,a⟩ := h
 exact dr_cut a s n hn
theorem r_rename (h : Dr.Dsk R w q d) (s t : ByteArray) (ht : t.size ≤ 9223372036854775807) : Calls Try.prog 24 #[.pointer (some ⟨q,0,none⟩),.string s,.string t] w (Dr.OpE R w q (renD d s t)) := by
 obtain ⟨v,rs,a⟩ := h
 exact dr_rename a s t ht
theorem r_remove (h : Dr.Dsk R w q d) (s : ByteArray) : Calls Try.prog 25 #[.pointer (some ⟨q,0,none⟩),.string s] w (Dr.OpE R w q (remD d s)) := by
 obtain ⟨v,rs,a⟩ := h
 exact dr_remove a s
theorem r_arm (h : Dr.Dsk R w q d) (n : Int) (hn : Fit n) : Calls Try.prog 27 #[.pointer (some ⟨q,0,none⟩),.int .i64 n] w fun e w' => e = .returned (.tuple #[]) ∧ Dr.Dsk (nw R w) w' q (armD d n) ∧ UpdQ R w w' := by
 obtain ⟨v,rs,a⟩ := h
 refine (dr_arm n hn a).mono ?_
 rintro e w' ⟨rfl,a1,u⟩
 exact ⟨rfl,⟨v,rs,a1.mono fun b z => .inl z⟩,u.mono fun b z => z ▸ a.pp⟩
theorem r_crash (h : Dr.Dsk R w q d) (ao : Option Addr) (n cap : Nat) (zs : List Int) (hI : Ints w ao n cap zs) (hap : zs ≠ [] → ∀ ad,ao = some ad → ¬ R ad.block) : Calls Try.prog 28 #[.pointer (some ⟨q,0,none⟩),.slice ao n cap] w fun e w' => e = .returned (.tuple #[]) ∧ Dr.Dsk (nw R w) w' q (crashD d zs) ∧ UpdQ R w w' := by
 obtain ⟨v,rs,a⟩ := h
 exact dr_crash a ao n cap zs hI hap
end
set_option maxHeartbeats 16000000 in
theorem law_call {w0 W : World} {p q i : Nat} {d : D} (h : PlI w0 p q i d W) (z : As.T) (hS : As.Short z) (hsub : As.Sub w0 z) (hi : i < 900) :
  Calls Try.prog 8 #[.pointer (some ⟨p,0,none⟩),.pointer (some ⟨q,0,none⟩),As.val z] W fun e W' => e = .returned (.bool true) ∧ ∃ d',PlI w0 p q (i + 1) d' W' := by
 obtain ⟨P,R,hb⟩ := h.bo
 obtain ⟨W1,hW,hbW,hC⟩ := As.boxed1 W z
 have hsz : W1.heap.size = W.heap.size + 1 := by rw [← hW]; simp
 have HB := Lib.hid (hb.later hbW)
 have HBd := Lib.hid (HB.out.later (Below.refl _ _).drew)
 have HPl := Lib.hid hb.pl
 have HRl := Lib.hid hb.rl
 have HC := Lib.hid hC
 have HOk := Lib.hid hb.s.ok
 have HNm := Lib.hid h.nm
 have HLen := Lib.hid h.len
 have HFw : Hid (d.fs.length < 1000) := Lib.hid (by have := h.len; omega)
 have HSh := Lib.hid hS
 have HSz := Lib.hid hsz
 obtain ⟨xs,hx,hxn⟩ := hsub.1
 obtain ⟨ys,hy⟩ := hsub.2
 have HX := Lib.hid hx
 have HY := Lib.hid hy
 have HId : Hid (PlI w0 p q (i + 1) d W1) := Lib.hid ⟨⟨P,R,HB.out⟩,HNm.out,by have := HLen.out; omega⟩
 obtain ⟨bA,hbA⟩ : ∃ bA,W.heap.size = bA := ⟨_,rfl⟩
 have HKp : Hid (∀ V V',bA < V.heap.size → As.C V bA z → (UpdQ P V V' ∨ UpdQ R V V') → As.C V' bA z ∧ bA < V'.heap.size) := Lib.hid fun V V' hl hc u => by
  rcases u with u | u
  · exact ⟨hc.keep (u.block bA hl fun zz => by have := HPl.out bA zz; omega),Nat.lt_of_lt_of_le hl u.size⟩
  · exact ⟨hc.keep (u.block bA hl fun zz => by have := HRl.out bA zz; omega),Nat.lt_of_lt_of_le hl u.size⟩
 have HL1 : Hid (bA < W1.heap.size) := Lib.hid (by omega)
 unfold As.C at hC
 obtain ⟨a0,a1,a2,a3,a4,a5⟩ := hC
 unfold As.val
 rw [hbA] at a0 a1 a2 a3 a4 a5 HC
 clear hb h hS hsub hbW hsz hx hy HSz
 by_cases e1 : z.kind = 1
 ·
  have k1 : (z.kind == 1) = true := beq_iff_eq.2 e1
  clear e1
  have CD := Lib.hid (s_app_old HBd.out.s z.name HSh.out.2.2.1 HX.out HFw.out)
  have HNx : Hid (Named (appD d z.name xs).2 ∧ (appD d z.name xs).2.fs.length ≤ i + 1) := Lib.hid ⟨app_named HOk.out HNm.out xs,by have := app_len (d := d) (s := z.name) (zs := xs); have := HLen.out; omega⟩
  have HCR : Hid (∀ W2,S (nw P W1.drew) w0 W2 p (appD d z.name xs).2 → UpdQ P W1.drew W2 → Calls Try.prog 20 #[.pointer (some ⟨q,0,none⟩),.string z.name,.slice z.data.ao z.data.n z.data.cap] W2 (Dr.OpE R W2 q (appD d z.name xs))) := Lib.hid fun W2 h2 u2 => by
   have m2 := HBd.out.mid h2 u2
   exact r_append m2.2.1 z.name (by have := HSh.out.2.2.1; omega) _ _ _ xs (HX.out.below h2.bel) (fun hne ad e zz => by have h5 := old_at HX.out hne ad e; have h6 := HBd.out.sub _ zz; omega) hxn HFw.out
  generalize hxx : appD d z.name xs = xx at *
  obtain ⟨ans,d'⟩ := xx
  simp only at CD HNx HCR
  clear hxx
  go_enter Try.func8,Try.ntmps8
  go_wp2
  go_region_held3 (fun u => u.cell? ⟨bA,0,none⟩ = some (.int .i64 z.kind) ∧ u.cell? ⟨bA,1,none⟩ = some (.int .i64 z.n) ∧ u.cell? ⟨bA,2,none⟩ = some (.string z.name) ∧ u.cell? ⟨bA,3,none⟩ = some (.string z.to) ∧ u.cell? ⟨bA,4,none⟩ = some (.slice z.data.ao z.data.n z.data.cap) ∧ u.cell? ⟨bA,5,none⟩ = some (.slice z.picks.ao z.picks.n z.picks.cap)) (first | assumption | fail) (first | (go_at_call 11; refine CD.out.mono ?_; rintro e W2 ⟨rfl,h2,u2⟩; have HS2 := HKp.out W1.drew W2 HL1.out (HC.out.below (Below.refl _ _).drew) (.inl u2); have hS2 := HS2.1; have CR := Lib.hid (HCR.out W2 h2 u2); have H2 := Lib.hid h2; have U2 := Lib.hid u2; unfold As.C at hS2; clear h2 u2) | (go_at_call 20; refine CR.out.mono ?_; rintro e W3 ⟨rfl,h3,u3⟩; have hS3 := (HKp.out W2 W3 HS2.2 HS2.1 (.inr u3)).1; have HF := Lib.hid (HBd.out.fin H2.out U2.out h3 u3); unfold As.C at hS3; clear h3 u3) | fail)
  all_goals
   go_wp2
   go_ret
   exact ⟨rfl,d',⟨HF.out,HNx.out.1,HNx.out.2⟩⟩
 have k1 : (z.kind == 1) = false := beq_eq_false_iff_ne.2 e1
 by_cases e2 : z.kind = 2
 ·
  have k2 : (z.kind == 2) = true := beq_iff_eq.2 e2
  clear e1 e2
  have CD := Lib.hid (s_sync HBd.out.s z.name)
  have HNx : Hid (Named (syncD d z.name).2 ∧ (syncD d z.name).2.fs.length ≤ i + 1) := Lib.hid ⟨sync_named HOk.out HNm.out,by have := sync_len HOk.out (d := d) (s := z.name); have := HLen.out; omega⟩
  have HCR : Hid (∀ W2,S (nw P W1.drew) w0 W2 p (syncD d z.name).2 → UpdQ P W1.drew W2 → Calls Try.prog 21 #[.pointer (some ⟨q,0,none⟩),.string z.name] W2 (Dr.OpE R W2 q (syncD d z.name))) := Lib.hid fun W2 h2 u2 => by
   have m2 := HBd.out.mid h2 u2
   exact r_sync m2.2.1 z.name
  generalize hxx : syncD d z.name = xx at *
  obtain ⟨ans,d'⟩ := xx
  simp only at CD HNx HCR
  clear hxx
  go_enter Try.func8,Try.ntmps8
  go_wp2
  go_region_held3 (fun u => u.cell? ⟨bA,0,none⟩ = some (.int .i64 z.kind) ∧ u.cell? ⟨bA,1,none⟩ = some (.int .i64 z.n) ∧ u.cell? ⟨bA,2,none⟩ = some (.string z.name) ∧ u.cell? ⟨bA,3,none⟩ = some (.string z.to) ∧ u.cell? ⟨bA,4,none⟩ = some (.slice z.data.ao z.data.n z.data.cap) ∧ u.cell? ⟨bA,5,none⟩ = some (.slice z.picks.ao z.picks.n z.picks.cap)) (first | assumption | fail) (first | (go_at_call 12; refine CD.out.mono ?_; rintro e W2 ⟨rfl,h2,u2⟩; have HS2 := HKp.out W1.drew W2 HL1.out (HC.out.below (Below.refl _ _).drew) (.inl u2); have hS2 := HS2.1; have CR := Lib.hid (HCR.out W2 h2 u2); have H2 := Lib.hid h2; have U2 := Lib.hid u2; unfold As.C at hS2; clear h2 u2) | (go_at_call 21; refine CR.out.mono ?_; rintro e W3 ⟨rfl,h3,u3⟩; have hS3 := (HKp.out W2 W3 HS2.2 HS2.1 (.inr u3)).1; have HF := Lib.hid (HBd.out.fin H2.out U2.out h3 u3); unfold As.C at hS3; clear h3 u3) | fail)
  all_goals
   go_wp2
   go_ret
   exact ⟨rfl,d',⟨HF.out,HNx.out.1,HNx.out.2⟩⟩
 have k2 : (z.kind == 2) = false := beq_eq_false_iff_ne.2 e2
 by_cases e3 : z.kind = 3
 ·
  have k3 : (z.kind == 3) = true := beq_iff_eq.2 e3
  clear e1 e2 e3
  have CD := Lib.hid (s_cut HBd.out.s z.name z.n HSh.out.2.1)
  have HNx : Hid (Named (cutD d z.name z.n).2 ∧ (cutD d z.name z.n).2.fs.length ≤ i + 1) := Lib.hid ⟨cut_named HOk.out HNm.out z.n,by have := cut_len HOk.out (d := d) (s := z.name) (n := z.n); have := HLen.out; omega⟩
  have HCR : Hid (∀ W2,S (nw P W1.drew) w0 W2 p (cutD d z.name z.n).2 → UpdQ P W1.drew W2 → Calls Try.prog 23 #[.pointer (some ⟨q,0,none⟩),.string z.name,.int .i64 z.n] W2 (Dr.OpE R W2 q (cutD d z.name z.n))) := Lib.hid fun W2 h2 u2 => by
   have m2 := HBd.out.mid h2 u2
   exact r_cut m2.2.1 z.name z.n HSh.out.2.1
  generalize hxx : cutD d z.name z.n = xx at *
  obtain ⟨ans,d'⟩ := xx
  simp only at CD HNx HCR
  clear hxx
  go_enter Try.func8,Try.ntmps8
  go_wp2
  go_region_held3 (fun u => u.cell? ⟨bA,0,none⟩ = some (.int .i64 z.kind) ∧ u.cell? ⟨bA,1,none⟩ = some (.int .i64 z.n) ∧ u.cell? ⟨bA,2,none⟩ = some (.string z.name) ∧ u.cell? ⟨bA,3,none⟩ = some (.string z.to) ∧ u.cell? ⟨bA,4,none⟩ = some (.slice z.data.ao z.data.n z.data.cap) ∧ u.cell? ⟨bA,5,none⟩ = some (.slice z.picks.ao z.picks.n z.picks.cap)) (first | assumption | fail) (first | (go_at_call 22; refine CD.out.mono ?_; rintro e W2 ⟨rfl,h2,u2⟩; have HS2 := HKp.out W1.drew W2 HL1.out (HC.out.below (Below.refl _ _).drew) (.inl u2); have hS2 := HS2.1; have CR := Lib.hid (HCR.out W2 h2 u2); have H2 := Lib.hid h2; have U2 := Lib.hid u2; unfold As.C at hS2; clear h2 u2) | (go_at_call 23; refine CR.out.mono ?_; rintro e W3 ⟨rfl,h3,u3⟩; have hS3 := (HKp.out W2 W3 HS2.2 HS2.1 (.inr u3)).1; have HF := Lib.hid (HBd.out.fin H2.out U2.out h3 u3); unfold As.C at hS3; clear h3 u3) | fail)
  all_goals
   go_wp2
   go_ret
   exact ⟨rfl,d',⟨HF.out,HNx.out.1,HNx.out.2⟩⟩
 have k3 : (z.kind == 3) = false := beq_eq_false_iff_ne.2 e3
 by_cases e4 : z.kind = 4
 ·
  have k4 : (z.kind == 4) = true := beq_iff_eq.2 e4
  clear e1 e2 e3 e4
  have CD := Lib.hid (s_rename HBd.out.s z.name z.to (by have := HSh.out.2.2.2; omega))
  have HNx : Hid (Named (renD d z.name z.to).2 ∧ (renD d z.name z.to).2.fs.length ≤ i + 1) := Lib.hid ⟨ren_named HOk.out HNm.out,by have := ren_len HOk.out (d := d) (s := z.name) (t := z.to); have := HLen.out; omega⟩
  have HCR : Hid (∀ W2,S (nw P W1.drew) w0 W2 p (renD d z.name z.to).2 → UpdQ P W1.drew W2 → Calls Try.prog 24 #[.pointer (some ⟨q,0,none⟩),.string z.name,.string z.to] W2 (Dr.OpE R W2 q (renD d z.name z.to))) := Lib.hid fun W2 h2 u2 => by
   have m2 := HBd.out.mid h2 u2
   exact r_rename m2.2.1 z.name z.to (by have := HSh.out.2.2.2; omega)
  generalize hxx : renD d z.name z.to = xx at *
  obtain ⟨ans,d'⟩ := xx
  simp only at CD HNx HCR
  clear hxx
  go_enter Try.func8,Try.ntmps8
  go_wp2
  go_region_held3 (fun u => u.cell? ⟨bA,0,none⟩ = some (.int .i64 z.kind) ∧ u.cell? ⟨bA,1,none⟩ = some (.int .i64 z.n) ∧ u.cell? ⟨bA,2,none⟩ = some (.string z.name) ∧ u.cell? ⟨bA,3,none⟩ = some (.string z.to) ∧ u.cell? ⟨bA,4,none⟩ = some (.slice z.data.ao z.data.n z.data.cap) ∧ u.cell? ⟨bA,5,none⟩ = some (.slice z.picks.ao z.picks.n z.picks.cap)) (first | assumption | fail) (first | (go_at_call 13; refine CD.out.mono ?_; rintro e W2 ⟨rfl,h2,u2⟩; have HS2 := HKp.out W1.drew W2 HL1.out (HC.out.below (Below.refl _ _).drew) (.inl u2); have hS2 := HS2.1; have CR := Lib.hid (HCR.out W2 h2 u2); have H2 := Lib.hid h2; have U2 := Lib.hid u2; unfold As.C at hS2; clear h2 u2) | (go_at_call 24; refine CR.out.mono ?_; rintro e W3 ⟨rfl,h3,u3⟩; have hS3 := (HKp.out W2 W3 HS2.2 HS2.1 (.inr u3)).1; have HF := Lib.hid (HBd.out.fin H2.out U2.out h3 u3); unfold As.C at hS3; clear h3 u3) | fail)
  all_goals
   go_wp2
   go_ret
   exact ⟨rfl,d',⟨HF.out,HNx.out.1,HNx.out.2⟩⟩
 have k4 : (z.kind == 4) = false := beq_eq_false_iff_ne.2 e4
 by_cases e5 : z.kind = 5
 ·
  have k5 : (z.kind == 5) = true := beq_iff_eq.2 e5
  clear e1 e2 e3 e4 e5
  have CD := Lib.hid (s_remove HBd.out.s z.name)
  have HNx : Hid (Named (remD d z.name).2 ∧ (remD d z.name).2.fs.length ≤ i + 1) := Lib.hid ⟨rem_named HNm.out,by have := rem_len (d := d) (s := z.name); have := HLen.out; omega⟩
  have HCR : Hid (∀ W2,S (nw P W1.drew) w0 W2 p (remD d z.name).2 → UpdQ P W1.drew W2 → Calls Try.prog 25 #[.pointer (some ⟨q,0,none⟩),.string z.name] W2 (Dr.OpE R W2 q (remD d z.name))) := Lib.hid fun W2 h2 u2 => by
   have m2 := HBd.out.mid h2 u2
   exact r_remove m2.2.1 z.name
  generalize hxx : remD d z.name = xx at *
  obtain ⟨ans,d'⟩ := xx
  simp only at CD HNx HCR
  clear hxx
  go_enter Try.func8,Try.ntmps8
  go_wp2
  go_region_held3 (fun u => u.cell? ⟨bA,0,none⟩ = some (.int .i64 z.kind) ∧ u.cell? ⟨bA,1,none⟩ = some (.int .i64 z.n) ∧ u.cell? ⟨bA,2,none⟩ = some (.string z.name) ∧ u.cell? ⟨bA,3,none⟩ = some (.string z.to) ∧ u.cell? ⟨bA,4,none⟩ = some (.slice z.data.ao z.data.n z.data.cap) ∧ u.cell? ⟨bA,5,none⟩ = some (.slice z.picks.ao z.picks.n z.picks.cap)) (first | assumption | fail) (first | (go_at_call 14; refine CD.out.mono ?_; rintro e W2 ⟨rfl,h2,u2⟩; have HS2 := HKp.out W1.drew W2 HL1.out (HC.out.below (Below.refl _ _).drew) (.inl u2); have hS2 := HS2.1; have CR := Lib.hid (HCR.out W2 h2 u2); have H2 := Lib.hid h2; have U2 := Lib.hid u2; unfold As.C at hS2; clear h2 u2) | (go_at_call 25; refine CR.out.mono ?_; rintro e W3 ⟨rfl,h3,u3⟩; have hS3 := (HKp.out W2 W3 HS2.2 HS2.1 (.inr u3)).1; have HF := Lib.hid (HBd.out.fin H2.out U2.out h3 u3); unfold As.C at hS3; clear h3 u3) | fail)
  all_goals
   go_wp2
   go_ret
   exact ⟨rfl,d',⟨HF.out,HNx.out.1,HNx.out.2⟩⟩
 have k5 : (z.kind == 5) = false := beq_eq_false_iff_ne.2 e5
 by_cases e6 : z.kind = 6
 ·
  have k6 : (z.kind == 6) = true := beq_iff_eq.2 e6
  clear e1 e2 e3 e4 e5 e6
  have CD := Lib.hid (s_arm HB.out.s z.n HSh.out.2.1)
  have HNx : Hid (Named (armD d z.n) ∧ (armD d z.n).fs.length ≤ i + 1) := Lib.hid ⟨HNm.out,by have := HLen.out; show d.fs.length ≤ i + 1; omega⟩
  go_enter Try.func8,Try.ntmps8
  go_wp2_with (first | (go_at_call 26; refine CD.out.mono ?_; rintro e W2 ⟨rfl,h2,u2⟩; have HS2 := HKp.out W1 W2 HL1.out HC.out (.inl u2); (obtain ⟨y0,y1,y2,y3,y4,y5⟩ := HS2.1); have m2 := HB.out.mid (⟨h2.dsk.mono fun b z => .inl z,fun b z => z.elim (h2.sub b) fun z => Nat.le_trans HB.out.s.bel.size z,h2.bel⟩ : S (nw P W1) w0 W2 p (armD d z.n)) u2; have CR := Lib.hid (r_arm m2.2.1 z.n HSh.out.2.1); have H2 := Lib.hid h2; have U2 := Lib.hid u2; clear h2 u2 m2) | (go_at_call 27; refine CR.out.mono ?_; rintro e W3 ⟨rfl,h3,u3⟩; have HF := Lib.hid (HB.out.fin (⟨H2.out.dsk.mono fun b z => .inl z,fun b z => z.elim (H2.out.sub b) fun z => Nat.le_trans HB.out.s.bel.size z,H2.out.bel⟩ : S (nw P W1) w0 W2 p (armD d z.n)) U2.out h3 u3); clear h3 u3))
  go_ret
  exact ⟨rfl,_,⟨HF.out,HNx.out.1,HNx.out.2⟩⟩
 have k6 : (z.kind == 6) = false := beq_eq_false_iff_ne.2 e6
 by_cases e7 : z.kind = 7
 ·
  have k7 : (z.kind == 7) = true := beq_iff_eq.2 e7
  clear e1 e2 e3 e4 e5 e6 e7
  have CD := Lib.hid (s_crash_old HB.out.s HY.out)
  have HNx : Hid (Named (crashD d ys) ∧ (crashD d ys).fs.length ≤ i + 1) := Lib.hid ⟨crash_named HNm.out ys,by have := HLen.out; rw [crash_len]; omega⟩
  go_enter Try.func8,Try.ntmps8
  go_wp2_with (first | (go_at_call 15; refine CD.out.mono ?_; rintro e W2 ⟨rfl,h2,u2⟩; have HS2 := HKp.out W1 W2 HL1.out HC.out (.inl u2); (obtain ⟨y0,y1,y2,y3,y4,y5⟩ := HS2.1); have m2 := HB.out.mid (⟨h2.dsk.mono fun b z => .inl z,fun b z => z.elim (h2.sub b) fun z => Nat.le_trans HB.out.s.bel.size z,h2.bel⟩ : S (nw P W1) w0 W2 p (crashD d ys)) u2; have CR := Lib.hid (r_crash m2.2.1 _ _ _ ys (HY.out.old h2.bel) (fun hne ad e zz => by have h5 := HY.out.old_at hne ad e; have h6 := HB.out.sub _ zz; omega)); have H2 := Lib.hid h2; have U2 := Lib.hid u2; clear h2 u2 m2) | (go_at_call 28; refine CR.out.mono ?_; rintro e W3 ⟨rfl,h3,u3⟩; have HF := Lib.hid (HB.out.fin (⟨H2.out.dsk.mono fun b z => .inl z,fun b z => z.elim (H2.out.sub b) fun z => Nat.le_trans HB.out.s.bel.size z,H2.out.bel⟩ : S (nw P W1) w0 W2 p (crashD d ys)) U2.out h3 u3); clear h3 u3))
  go_ret
  exact ⟨rfl,_,⟨HF.out,HNx.out.1,HNx.out.2⟩⟩
 have k7 : (z.kind == 7) = false := beq_eq_false_iff_ne.2 e7
 clear e1 e2 e3 e4 e5 e6 e7
 go_enter Try.func8,Try.ntmps8
 go_wp2
 go_ret
 exact ⟨rfl,d,HId.out⟩
end Go.Proofs.Ytegniklofhopeaa
