/- ConfOf, walked. (By gencfl.py.) -/
import Derived.Test.YtnelakpagjdcdaaCfO
import Derived.Test.YtnelakpagjdcdaaCfR
set_option maxRecDepth 100000
set_option linter.unusedVariables false
namespace Go.Proofs.Ytnelakpagjdcdaa
open Go.RowKit
open Mem Cf

def Cf.mark : Et.T := ⟨3, 0, ⟨#[]⟩⟩
theorem Cf.mark_short : Et.Short Cf.mark := ⟨⟨by decide, by decide⟩, ⟨by decide, by decide⟩, by decide⟩
def Cf.with (r : Hd.T) (s : Sl) : Hd.T := ⟨r.term, r.vote, r.base, r.bt, r.mem, r.snap, s⟩
def Cf.rvA (r : Hd.T) : Array Value := #[.int .i64 r.term, .int .i64 r.vote, .int .i64 r.base, .int .i64 r.bt, .int .i64 r.mem, .string r.snap, .slice r.log.ao r.log.n r.log.cap]
/-- a Hard in a block of its own, made since a world; its entries lie -/
structure Hx (w u : World) (g : Nat) (r : Hd.T) (l : List Et.T) : Prop where
  bel : Below w.heap.size w u
  row : u.heap[g]? = some (.cells (Cf.rvA r) 32 (0, 0))
  ls : Et.Ls u r.log.ao r.log.n r.log.cap l
  ge : w.heap.size ≤ g
section
variable {w u v : World} {g : Nat} {r r' : Hd.T} {l l' : List Et.T}
theorem Hx.lt (h : Hx w u g r l) : g < u.heap.size := (Array.getElem?_eq_some_iff.1 h.row).1
theorem Hx.below (h : Hx w u g r l) (k : Below u.heap.size u v) : Hx w v g r l := ⟨bchain h.bel k, (k.block _ h.lt).trans h.row, h.ls.below k, h.ge⟩
theorem Hx.cell (h : Hx w u g r l) (i : Nat) : u.cell? ⟨g, i, none⟩ = (Cf.rvA r)[i]? := cell_of_row u _ i _ _ _ h.row
theorem Hx.fz (h : Hx w u g r l) (o : Nat) : u.frozen? ⟨g, o, none⟩ = false := frozen_of_row u _ o _ _ h.row
theorem Hx.c (h : Hx w u g r l) : Hd.C u g r := by
  unfold Hd.C
  exact ⟨h.cell 0, h.cell 1, h.cell 2, h.cell 3, h.cell 4, h.cell 5, h.cell 6⟩
theorem Hx.box (h : Below w.heap.size w u) (hl : Et.Ls u r.log.ao r.log.n r.log.cap l) : Hx w (Hd.box u r) u.heap.size r l :=
  ⟨bchain h (Hd.below_own u r), heap_alloc_new u _, hl.below (Hd.below_own u r), h.size⟩
/-- the Log is cut -/
theorem Hx.cut (h : Hx w u g r l) (s : Sl) (hl : Et.Ls w s.ao s.n s.cap l') : Hx w (u.setCell ⟨g, 6, none⟩ (.slice s.ao s.n s.cap)) g (Cf.with r s) l' :=
  ⟨bset h.bel h.ge 6 _, by
    rw [heap_setCell_same _ g 6 _ _ _ h.row]
    rfl, hl.below (bset h.bel h.ge 6 _), h.ge⟩
end
set_option maxHeartbeats 400000 in
theorem confOf_walk (z0 : Hd.T) (W : World) (ws0 : Hd.Short z0) (w0 : Hd.Sub W z0) :
    Calls Try.prog 5 #[Hd.val z0] W fun e W' => e = .returned (.bool true) ∧ Below W.heap.size W W' := by
  obtain ⟨l0, hl0, hn0⟩ := w0
  have HX0 := Lib.hid (Hx.box (Below.refl W.heap.size W) hl0)
  have HL0 := Lib.hid hl0
  have HN0 := Lib.hid hl0.len
  have h1 := hl0.fits
  have h2 := hl0.reach
  have hs300 : 300 ≤ z0.log.n → (∀ u, (Instr.slice 30 (.slice z0.log.ao z0.log.n z0.log.cap) none (some (.int .i64 300)) none).run Try.prog u = .ok (.slice z0.log.ao 300 z0.log.cap) u) := fun h => (hl0.to 300 h).1
  clear hl0 ws0
  obtain ⟨Y, hY⟩ : ∃ Y, Hd.box W z0 = Y := ⟨_, rfl⟩
  rw [hY] at HX0
  unfold Hd.box at hY
  have HY := Lib.hid hY
  clear hY
  unfold Hd.val
  by_cases c300 : (z0.log.n : Int) > 300
  · have HX2 : Hid (Hx W (Y.setCell ⟨W.heap.size, 6, none⟩ (.slice z0.log.ao 300 z0.log.cap)) W.heap.size (Cf.with z0 ⟨z0.log.ao, 300, z0.log.cap⟩) (l0.take 300)) := Lib.hid (HX0.out.cut ⟨z0.log.ao, 300, z0.log.cap⟩ (HL0.out.to 300 (by omega)).2)
    have hs := hs300 (by omega)
    obtain ⟨a0, a1, a2, a3, a4, a5, a6⟩ := HX0.out.c
    have q6 := HX0.out.fz 6
    have HY' := HY.out
    go_enter Try.func5, Try.ntmps5
    go_wp2_with fail
    obtain ⟨U2, hU2⟩ : ∃ U, Y.setCell ⟨W.heap.size, 6, none⟩ (.slice z0.log.ao 300 z0.log.cap) = U := ⟨_, rfl⟩
    rw [hU2] at HX2 ⊢
    clear HX0 HL0 HN0 HY' hs hs300 a0 a1 a2 a3 a4 a5 a6 q6 HY hU2
    obtain ⟨r, hr⟩ : ∃ r, Cf.with z0 ⟨z0.log.ao, 300, z0.log.cap⟩ = r := ⟨_, rfl⟩
    obtain ⟨l, hll⟩ : ∃ l, l0.take 300 = l := ⟨_, rfl⟩
    have hn : r.log.n ≤ 300 := by rw [← hr]; exact Nat.le_refl _
    have hs1 : Value.slice z0.log.ao 300 z0.log.cap = Value.slice r.log.ao r.log.n r.log.cap := by rw [← hr]; rfl
    rw [hr, hll] at HX2
    rw [hs1]
    clear hr hll hs1
    have HRo := Lib.hid (Et.roomy l Cf.mark r.log.ao r.log.n r.log.cap U2 HX2.out.ls (by omega))
    unfold Et.val Cf.mark at HRo
    dsimp only at HRo
    refine HRo.out.mono ?_
    rintro e u3 ⟨rfl, hblk, b3⟩
    have HX3 := Lib.hid (HX2.out.below b3)
    obtain ⟨g, hg⟩ : ∃ g, U2.heap.size + 1 = g := ⟨_, rfl⟩
    rw [hg] at hblk ⊢
    have hF3 : Et.Block u3 g (l ++ List.replicate 80 Cf.mark) := hblk
    have HN := Lib.hid HX3.out.ls.len
    have hfull := Et.full_ls hF3 HX3.out.ls.len (by omega) HX3.out.ls.short Cf.mark_short
    obtain ⟨hsl, hOl⟩ := hfull.to r.log.n (by omega)
    rw [HX3.out.ls.len, List.take_left' rfl, ← HX3.out.ls.len] at hOl
    have hlt3 := HX3.out.lt
    have hc3 := HX3.out.ls.fits
    have hr3 := HX3.out.ls.reach
    obtain ⟨R', hR'⟩ : ∃ R', Cf.with r ⟨some ⟨g, 0, none⟩, r.log.n, r.log.n + 80⟩ = R' := ⟨_, rfl⟩
    have hOl' : Et.Ls u3 R'.log.ao R'.log.n R'.log.cap l := by rw [← hR']; exact hOl
    have HO4 : Hid (Hx W (Hd.box u3 R') u3.heap.size R' l) := Lib.hid (Hx.box HX3.out.bel hOl')
    have HX4 := Lib.hid (HX3.out.below (Hd.below_own u3 R'))
    have HX3b := Lib.hid (HX3.out.below (Hd.below_own u3 r))
    have HF4 := Lib.hid (hF3.below (Hd.below_own u3 R'))
    obtain ⟨u4, hu4⟩ : ∃ U, Hd.box u3 R' = U := ⟨_, rfl⟩
    rw [hu4] at HO4 HX4 HF4
    have HU4 := Lib.hid hu4
    have hx3 := HX3b.out.c.2.2.2.2.2.2
    unfold Hd.box at hx3
    clear b3 hblk hg hF3 hfull hOl hOl' hu4 HX2 HRo
    obtain ⟨a0, a1, a2, a3, a4, a5, a6⟩ := HX3.out.c
    clear HX3 HX3b
    go_wp2_with fail
    have hu := HU4.out
    rw [← hR'] at hu
    unfold Hd.box Cf.with at hu
    dsimp only at hu
    rw [hu]
    clear hu HU4 hx3 hsl a0 a1 a2 a3 a4 a5 a6
    have HCo := Lib.hid (cf_of R' l u4 HO4.out.ls (by rw [← hR']; show r.log.n ≤ _; omega))
    have hb' : R'.mem = r.mem ∧ R'.base = r.base := by rw [← hR']; exact ⟨rfl, rfl⟩
    rw [hb'.1, hb'.2] at HCo
    unfold Hd.val at HCo
    rw [← hR'] at HCo
    unfold Cf.with at HCo
    dsimp only at HCo
    clear hR' hb' HO4
    refine HCo.out.mono ?_
    rintro e u5 ⟨rfl, b5⟩
    have HX5 := Lib.hid (HX4.out.below b5)
    have HF5 := Lib.hid (HF4.out.below b5)
    clear b5 HX4 HF4 HCo
    obtain ⟨a0, a1, a2, a3, a4, a5, a6⟩ := HX5.out.c
    have HCr := Lib.hid (rf_of r l u5 HX5.out.ls (by omega))
    unfold Hd.val at HCr
    obtain ⟨⟨o1, o2⟩, hres⟩ : ∃ o, ofK r.mem r.base l l.length = o := ⟨_, rfl⟩
    rw [hres] at HCr ⊢
    clear hres
    go_wp2_with fail
    refine HCr.out.mono ?_
    rintro e u6 ⟨rfl, b6⟩
    have HX6 := Lib.hid (HX5.out.below b6)
    have HF6 := Lib.hid (HF5.out.below b6)
    clear b6 HX5 HF5 HCr a0 a1 a2 a3 a4 a5 a6
    obtain ⟨a0, a1, a2, a3, a4, a5, a6⟩ := HX6.out.c
    have e1 := beq_self_eq_true o1
    have e2 := beq_self_eq_true o2
    have HIn := Lib.hid (Et.intact l Cf.mark r.log.ao g r.log.n r.log.cap u6 u6 (Below.refl _ _) HX6.out.ls HF6.out Cf.mark_short (by omega))
    unfold Et.val Cf.mark at HIn
    dsimp only at HIn
    go_wp2_with fail
    refine HIn.out.mono ?_
    rintro e u7 ⟨rfl, b7⟩
    have HX7 := Lib.hid (HX6.out.below b7)
    clear b7 HX6 HF6 HIn a0 a1 a2 a3 a4 a5 a6
    go_wp2_with fail
    refine (conf_runs W u7 HX7.out.bel).mono ?_
    rintro e u8 ⟨rfl, b8⟩
    have HB8 := Lib.hid b8
    clear b8 HX7
    go_wp2_with fail
    go_ret
    exact ⟨rfl, HB8.out⟩
  · obtain ⟨a0, a1, a2, a3, a4, a5, a6⟩ := HX0.out.c
    have HY' := HY.out
    go_enter Try.func5, Try.ntmps5
    go_wp2_with fail
    clear a0 a1 a2 a3 a4 a5 a6 HY'
    obtain ⟨U2, hU2⟩ : ∃ U, U = Y := ⟨_, rfl⟩
    obtain ⟨r, hr⟩ : ∃ r, r = z0 := ⟨_, rfl⟩
    obtain ⟨l, hll⟩ : ∃ l, l = l0 := ⟨_, rfl⟩
    have hn : z0.log.n ≤ 300 := by omega
    have HX2 := HX0
    clear HX0 HL0 HN0 hs300 HY
    subst hU2
    subst hr
    subst hll
    have HRo := Lib.hid (Et.roomy l Cf.mark r.log.ao r.log.n r.log.cap U2 HX2.out.ls (by omega))
    unfold Et.val Cf.mark at HRo
    dsimp only at HRo
    refine HRo.out.mono ?_
    rintro e u3 ⟨rfl, hblk, b3⟩
    have HX3 := Lib.hid (HX2.out.below b3)
    obtain ⟨g, hg⟩ : ∃ g, U2.heap.size + 1 = g := ⟨_, rfl⟩
    rw [hg] at hblk ⊢
    have hF3 : Et.Block u3 g (l ++ List.replicate 80 Cf.mark) := hblk
    have HN := Lib.hid HX3.out.ls.len
    have hfull := Et.full_ls hF3 HX3.out.ls.len (by omega) HX3.out.ls.short Cf.mark_short
    obtain ⟨hsl, hOl⟩ := hfull.to r.log.n (by omega)
    rw [HX3.out.ls.len, List.take_left' rfl, ← HX3.out.ls.len] at hOl
    have hlt3 := HX3.out.lt
    have hc3 := HX3.out.ls.fits
    have hr3 := HX3.out.ls.reach
    obtain ⟨R', hR'⟩ : ∃ R', Cf.with r ⟨some ⟨g, 0, none⟩, r.log.n, r.log.n + 80⟩ = R' := ⟨_, rfl⟩
    have hOl' : Et.Ls u3 R'.log.ao R'.log.n R'.log.cap l := by rw [← hR']; exact hOl
    have HO4 : Hid (Hx W (Hd.box u3 R') u3.heap.size R' l) := Lib.hid (Hx.box HX3.out.bel hOl')
    have HX4 := Lib.hid (HX3.out.below (Hd.below_own u3 R'))
    have HX3b := Lib.hid (HX3.out.below (Hd.below_own u3 r))
    have HF4 := Lib.hid (hF3.below (Hd.below_own u3 R'))
    obtain ⟨u4, hu4⟩ : ∃ U, Hd.box u3 R' = U := ⟨_, rfl⟩
    rw [hu4] at HO4 HX4 HF4
    have HU4 := Lib.hid hu4
    have hx3 := HX3b.out.c.2.2.2.2.2.2
    unfold Hd.box at hx3
    clear b3 hblk hg hF3 hfull hOl hOl' hu4 HX2 HRo
    obtain ⟨a0, a1, a2, a3, a4, a5, a6⟩ := HX3.out.c
    clear HX3 HX3b
    go_wp2_with fail
    have hu := HU4.out
    rw [← hR'] at hu
    unfold Hd.box Cf.with at hu
    dsimp only at hu
    rw [hu]
    clear hu HU4 hx3 hsl a0 a1 a2 a3 a4 a5 a6
    have HCo := Lib.hid (cf_of R' l u4 HO4.out.ls (by rw [← hR']; show r.log.n ≤ _; omega))
    have hb' : R'.mem = r.mem ∧ R'.base = r.base := by rw [← hR']; exact ⟨rfl, rfl⟩
    rw [hb'.1, hb'.2] at HCo
    unfold Hd.val at HCo
    rw [← hR'] at HCo
    unfold Cf.with at HCo
    dsimp only at HCo
    clear hR' hb' HO4
    refine HCo.out.mono ?_
    rintro e u5 ⟨rfl, b5⟩
    have HX5 := Lib.hid (HX4.out.below b5)
    have HF5 := Lib.hid (HF4.out.below b5)
    clear b5 HX4 HF4 HCo
    obtain ⟨a0, a1, a2, a3, a4, a5, a6⟩ := HX5.out.c
    have HCr := Lib.hid (rf_of r l u5 HX5.out.ls (by omega))
    unfold Hd.val at HCr
    obtain ⟨⟨o1, o2⟩, hres⟩ : ∃ o, ofK r.mem r.base l l.length = o := ⟨_, rfl⟩
    rw [hres] at HCr ⊢
    clear hres
    go_wp2_with fail
    refine HCr.out.mono ?_
    rintro e u6 ⟨rfl, b6⟩
    have HX6 := Lib.hid (HX5.out.below b6)
    have HF6 := Lib.hid (HF5.out.below b6)
    clear b6 HX5 HF5 HCr a0 a1 a2 a3 a4 a5 a6
    obtain ⟨a0, a1, a2, a3, a4, a5, a6⟩ := HX6.out.c
    have e1 := beq_self_eq_true o1
    have e2 := beq_self_eq_true o2
    have HIn := Lib.hid (Et.intact l Cf.mark r.log.ao g r.log.n r.log.cap u6 u6 (Below.refl _ _) HX6.out.ls HF6.out Cf.mark_short (by omega))
    unfold Et.val Cf.mark at HIn
    dsimp only at HIn
    go_wp2_with fail
    refine HIn.out.mono ?_
    rintro e u7 ⟨rfl, b7⟩
    have HX7 := Lib.hid (HX6.out.below b7)
    clear b7 HX6 HF6 HIn a0 a1 a2 a3 a4 a5 a6
    go_wp2_with fail
    refine (conf_runs W u7 HX7.out.bel).mono ?_
    rintro e u8 ⟨rfl, b8⟩
    have HB8 := Lib.hid b8
    clear b8 HX7
    go_wp2_with fail
    go_ret
    exact ⟨rfl, HB8.out⟩
end Go.Proofs.Ytnelakpagjdcdaa
