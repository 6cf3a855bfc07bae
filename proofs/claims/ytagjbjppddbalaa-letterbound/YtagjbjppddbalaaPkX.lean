/- CONTRACTS OF PACKAGE pack: Text. -/
import Derived.Test.YtagjbjppddbalaaPkW
namespace Go.Proofs.Ytagjbjppddbalaa
open Go.RowKit
open Mem Pk

/-- copy(dst[o:], text): into a block of one's own, behind what stands there already -/
theorem By.copyS (u : World) (g o : Nat) (hd ts : List UInt8) (dCap : Nat) (s : ByteArray) (n : Nat) (hb : By.Block u g (hd ++ List.replicate n 0 ++ ts)) (ho : o = hd.length) (hn : n = s.size) (da : Option Addr) (hda : 0 < n → da = some ⟨g, o, none⟩) :
    ∃ u', (Builtin.copy_ #[25, 9] 3 #[.slice da (n + ts.length) dCap, .string s]).run Try.prog u = .ok (goInt n) u' ∧ By.Block u' g (hd ++ txt s ++ ts) ∧ (∀ B w0, Below B w0 u → B ≤ g → Below B w0 u') ∧ u'.heap.size = u.heap.size := by
  obtain ⟨i0, hi, hiK⟩ := Option.map_eq_some_iff.1 By.sizeZ
  have hmin : Nat.min n (n + ts.length) = n := Nat.min_eq_left (by omega)
  have hcells : List.take n (List.map (fun b : UInt8 => Value.int .u8 (b.toNat : Int)) s.data.toList) = (txt s).map By.bv := by
    rw [List.take_of_length_le (by rw [List.length_map]; show (txt s).length ≤ n; rw [txt_len]; omega)]
    rfl
  by_cases h0 : n = 0
  · subst h0
    have e : txt s = [] := List.length_eq_zero_iff.1 (by rw [txt_len]; exact hn.symm)
    refine ⟨u, ?_, by rw [e]; simpa using hb, fun _ _ h _ => h, rfl⟩
    cases da <;> simp [Builtin.copy_, run_underlying Try.underlying25, Builtin.lenOf, Builtin.firstCells, sizeOf, typeInfo, hi, storeCells, ← hn]
  · obtain rfl := hda (by omega)
    have hst := run_storeCells_at Try.prog g o 5 ((txt s).map By.bv) 0 _ u hb (by
      simp [txt_len]
      omega) (By.one_cell (txt s))
    have e : (((hd ++ List.replicate n (0 : UInt8) ++ ts).map By.bv).toArray.toList.take (o + 0) ++ (txt s).map By.bv ++ ((hd ++ List.replicate n (0 : UInt8) ++ ts).map By.bv).toArray.toList.drop (o + 0 + ((txt s).map By.bv).length)) = (hd ++ txt s ++ ts).map By.bv := by
      rw [List.toList_toArray, Nat.add_zero, List.length_map, txt_len, ← hn, ho]
      simp only [List.map_append, List.append_assoc]
      have e2 : (hd.map By.bv ++ ((List.replicate n (0 : UInt8)).map By.bv ++ ts.map By.bv)).drop (hd.length + n) = ts.map By.bv := by
        rw [← List.append_assoc]
        exact List.drop_left' (by simp)
      rw [List.take_left' (by simp), e2]
    rw [e] at hst
    refine ⟨u.setRow g ((hd ++ txt s ++ ts).map By.bv).toArray, ?_, setRow_heap u g _ _ 5 _ hb, fun B w0 h hB => below_setRow h hB _, by simp [World.setRow]⟩
    obtain ⟨R, hR⟩ : ∃ R, ((hd ++ txt s ++ ts).map By.bv).toArray = R := ⟨_, rfl⟩
    rw [hR] at hst ⊢
    simp [Builtin.copy_, run_underlying Try.underlying25, Builtin.lenOf, Builtin.firstCells, sizeOf, typeInfo, hi, hmin, ← hn, hcells, hst]
set_option maxHeartbeats 2000000 in
theorem pack_text (bs : List UInt8) (s : ByteArray) (hs : s.size ≤ 1000000000000) (ao : Option Addr) (m cap : Nat) (w : World) (hL : By.Ls w ao m cap bs) (hm : m ≤ 1000000000000) :
    Calls Try.prog 25 #[.slice ao m cap, .string s] w fun e w' => (∃ g N, e = .returned (.slice (some ⟨g, 0, none⟩) N N) ∧ N = (bs ++ vb (zz s.size) ++ txt s).length ∧ w.heap.size ≤ g ∧ By.Block w' g (bs ++ vb (zz s.size) ++ txt s)) ∧ Below w.heap.size w w' := by
  have HL := Lib.hid hL
  have HLen := Lib.hid hL.len
  have hcap := hL.reach
  obtain ⟨z, hz⟩ : ∃ z, s.size = z := ⟨_, rfl⟩
  have HZ := Lib.hid hz
  rw [hz] at hs
  clear hL
  go_enter Try.func25, Try.ntmps25
  go_wp2_with fail
  refine (pack_num bs (z : Int) ⟨by omega, by omega⟩ ao m cap w HL.out hm).mono ?_
  rintro e w1 ⟨⟨g, rfl, hg, hblk⟩, b1⟩
  obtain ⟨d, hd⟩ : ∃ d, wd (zz (z : Int)) = d := ⟨_, rfl⟩
  have hd10 : d ≤ 10 := by rw [← hd]; exact vbF_len 10 _
  have HD := Lib.hid hd
  rw [hd]
  have HHl : Hid ((bs ++ vb (zz (z : Int))).length = m + d) := Lib.hid (by
    rw [List.length_append, ← HLen.out, ← hd]
    rfl)
  have HBk := Lib.hid hblk
  have HB1 := Lib.hid b1
  have hs1 := b1.size
  clear hd hblk b1
  obtain ⟨h, hh⟩ : ∃ h, m + d = h := ⟨_, rfl⟩
  rw [hh]
  have hhb : h ≤ 1000000000010 := by omega
  rw [hh] at HHl
  clear hh
  have hmk := By.make (h + z) (by omega)
  rw [show ((h + z : Nat) : Int) = (h : Int) + (z : Int) from by omega] at hmk
  have hb0 := By.block_made w1 (h + z)
  rw [← List.replicate_append_replicate] at hb0
  have hB2 := (Below.refl w1.heap.size w1).alloc (Nat.le_refl _) (.cells (By.zeros (h + z)) 5)
  have hl1 : By.Ls w1 (some ⟨g, 0, none⟩) h h (bs ++ vb (zz (z : Int))) := by
    have := HBk.out.ls (by rw [HHl.out]; omega)
    rw [HHl.out] at this
    exact this
  obtain ⟨W2, hcp, hblk2, hbel2, hsz2⟩ := By.copy (w1.alloc (.cells (By.zeros (h + z)) 5)) w1.heap.size 0 [] (List.replicate z 0) (h + z) (some ⟨g, 0, none⟩) h h (bs ++ vb (zz (z : Int))) (by simpa using hb0) rfl HHl.out.symm (hl1.below hB2).seg (some ⟨w1.heap.size, 0, none⟩) (fun _ => rfl)
  rw [List.length_replicate] at hcp
  rw [List.nil_append] at hblk2
  have hbw2 := hbel2 _ _ hB2 (Nat.le_refl _)
  have hlo : By.Ls W2 (some ⟨w1.heap.size, 0, none⟩) (h + z) (h + z) (bs ++ vb (zz (z : Int)) ++ List.replicate z 0) := by
    have := hblk2.ls (by rw [List.length_append, HHl.out, List.length_replicate]; omega)
    rw [List.length_append, HHl.out, List.length_replicate] at this
    exact this
  obtain ⟨ao2, cap2, hsl, _, had⟩ := hlo.from h (by omega)
  rw [show h + z - h = z by omega] at hsl
  obtain ⟨W3, hcp3, hblk3, hbel3, hsz3⟩ := By.copyS W2 w1.heap.size h (bs ++ vb (zz (z : Int))) [] cap2 s z (by simpa using hblk2) HHl.out.symm HZ.out.symm ao2 (fun hp => by
    have := had (by omega) _ _ rfl
    rw [Nat.zero_add] at this
    exact this)
  rw [List.length_nil, Nat.add_zero] at hcp3
  rw [List.append_nil] at hblk3
  have HB3 := Lib.hid (hbel3 _ _ (bchain HB1.out hbw2) hs1)
  have HBk3 := Lib.hid hblk3
  clear hblk3 hbel3 hsz3 hblk2 hbel2 hsz2 hb0 hB2 hl1 hlo had hbw2
  go_wp2_with fail
  go_ret
  refine ⟨⟨w1.heap.size, h + z, rfl, ?_, hs1, ?_⟩, HB3.out⟩
  · rw [List.length_append, txt_len, HZ.out, HHl.out]
  · rw [HZ.out]
    exact HBk3.out
end Go.Proofs.Ytagjbjppddbalaa
