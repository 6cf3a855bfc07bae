/- THE WALK OF SeriesGapless. (By gensgap.py.) -/
import Derived.Test.YtemifminohdhbaaSGp
import Derived.Test.YtemifminohdhbaaAkS
set_option maxRecDepth 100000
namespace Go.Proofs.Ytemifminohdhbaa
open Go.RowKit
open Mem
open Go.Sort (grow)

/-- four cells lie in a block -/
def Arr (u : World) (g : Nat) (t : TypeId) (f : Nat → Value) : Prop := u.heap[g]? = some (.cells #[f 0, f 1, f 2, f 3] t (0, 0))
section
variable {u v : World} {g k : Nat} {t : TypeId} {f : Nat → Value}
theorem Arr.lt (h : Arr u g t f) : g < u.heap.size := by
  obtain ⟨hl, _⟩ := Array.getElem?_eq_some_iff.1 h
  exact hl
theorem Arr.below (h : Arr u g t f) (b : Below u.heap.size u v) : Arr v g t f := (b.block g h.lt).trans h
theorem Arr.cell (h : Arr u g t f) (hk : k ≤ 3) : u.cell? ⟨g, k, none⟩ = some (f k) := by
  rw [cell_of_row u g _ _ _ _ h]
  have h4 : k = 0 ∨ k = 1 ∨ k = 2 ∨ k = 3 := by omega
  rcases h4 with rfl | rfl | rfl | rfl <;> rfl
theorem Arr.frozen (h : Arr u g t f) : u.frozen? ⟨g, k, none⟩ = false := frozen_of_row u g k _ _ h
theorem Arr.far (h : Arr u g t f) {g' : Nat} (hne : g ≠ g') (o : Nat) (x : Value) : Arr (u.setCell ⟨g', o, none⟩ x) g t f := by
  unfold Arr
  rw [heap_setCell_other u ⟨g', o, none⟩ g x hne]
  exact h
theorem Arr.set (h : Arr u g t f) (hk : k ≤ 3) (x : Value) : Arr (u.setCell ⟨g, k, none⟩ x) g t (upd f k x) := by
  unfold Arr
  rw [heap_setCell_same u g k _ _ x h]
  have h4 : k = 0 ∨ k = 1 ∨ k = 2 ∨ k = 3 := by omega
  rcases h4 with rfl | rfl | rfl | rfl <;> rfl
end
theorem upd_int (la : Nat → Int) (k : Nat) (x : Int) : upd (fun i => Value.int .i64 (la i)) k (.int .i64 x) = fun i => .int .i64 (upd la k x i) := by
  funext i
  unfold upd
  split <;> rfl
theorem upd_bool (op : Nat → Bool) (k : Nat) (x : Bool) : upd (fun i => Value.bool (op i)) k (.bool x) = fun i => .bool (upd op k x i) := by
  funext i
  unfold upd
  split <;> rfl
theorem NamesAt.far {u : World} {g g' : Nat} (h : NamesAt u g) (hne : g' ≠ g) (o : Nat) (x : Value) : NamesAt (u.setCell ⟨g', o, none⟩ x) g := by
  intro k hk
  rw [World.cell?_setCell_far u _ _ x hne]
  exact h k hk
theorem Sr.Ls.far {u : World} {lo : Option Addr} {p lc : Nat} {l : List Sr.T} (h : Sr.Ls u lo p lc l) {g : Nat} (hne : ∀ ad, lo = some ad → g ≠ ad.block) (o : Nat) (x : Value) : Sr.Ls (u.setCell ⟨g, o, none⟩ x) lo p lc l := by
  refine ⟨h.len, h.fits, h.reach, h.nil, ?_, h.short⟩
  rcases h.seg with e | ⟨b, off, e, hc⟩
  · exact .inl e
  · have hb : g ≠ b := hne _ e
    refine .inr ⟨b, off, e, fun k hk => ?_⟩
    obtain ⟨c0, c1, c2, c3⟩ := hc k hk
    exact ⟨by rw [World.cell?_setCell_far u _ _ x hb]; exact c0, by rw [World.cell?_setCell_far u _ _ x hb]; exact c1, by rw [World.cell?_setCell_far u _ _ x hb]; exact c2, by rw [World.cell?_setCell_far u _ _ x hb]; exact c3⟩
/-- what the walk carries from round to round -/
structure GSt (w wr : World) (g : Nat) (lo : Option Addr) (p lc : Nat) (l : List Sr.T) (la lm : Nat → Int) (op sh : Nat → Bool) : Prop where
  gw : w.heap.size = g
  bel : Below w.heap.size w wr
  names : NamesAt wr g
  a5 : Arr wr (g + 1) 47 fun i => .int .i64 (la i)
  a6 : Arr wr (g + 1 + 1) 47 fun i => .int .i64 (lm i)
  a7 : Arr wr (g + 1 + 1 + 1) 48 fun i => .bool (op i)
  a8 : Arr wr (g + 1 + 1 + 1 + 1) 48 fun i => .bool (sh i)
  ls : Sr.Ls wr lo p lc l
  far : ∀ ad, lo = some ad → g + 5 ≤ ad.block
  inv : Inv l la lm op sh
  len : p = l.length
theorem GSt.below {w wr v : World} {g : Nat} {lo : Option Addr} {p lc : Nat} {l : List Sr.T} {la lm : Nat → Int} {op sh : Nat → Bool} (h : GSt w wr g lo p lc l la lm op sh) (b : Below wr.heap.size wr v) : GSt w v g lo p lc l la lm op sh :=
  ⟨h.gw, bchain h.bel b, h.names.below b, h.a5.below b, h.a6.below b, h.a7.below b, h.a8.below b, h.ls.below b, h.far, h.inv, h.len⟩
theorem own_far {w : World} {B : Nat} {v : Value} {xs : List Sr.T} (h : Sr.Own w B v xs) (hs : ∀ r ∈ xs, Sr.Short r) : ∃ ao cap, v = .slice ao xs.length cap ∧ Sr.Ls w ao xs.length cap xs ∧ (∀ ad, ao = some ad → B ≤ ad.block) := by
  obtain ⟨ao, cap, e, hL, hg⟩ := Sr.own_ls h hs
  exact ⟨ao, cap, e, hL, fun ad ha => by obtain ⟨g, rfl, hB⟩ := hg ad ha; exact hB⟩
theorem GSt.size {w wr : World} {g : Nat} {lo : Option Addr} {p lc : Nat} {l : List Sr.T} {la lm : Nat → Int} {op sh : Nat → Bool} (h : GSt w wr g lo p lc l la lm op sh) : g + 5 ≤ wr.heap.size := by
  have := h.a8.lt
  omega
section
variable {w wr : World} {g : Nat} {lo : Option Addr} {p lc : Nat} {l : List Sr.T} {la lm : Nat → Int} {op sh : Nat → Bool} {k : Nat}
/-- a series was opened -/
theorem GSt.opened (h : GSt w wr g lo p lc l la lm op sh) (hk : k ≤ 3) (ho : op k = false) {n : Int} (hn : Se.lim n = true) (vo : Option Addr) (q vc : Nat) (hL : Sr.Ls wr vo q vc (Se.openL l ⟨nm k, 1, n, false⟩)) (hf : ∀ ad, vo = some ad → g + 5 ≤ ad.block) :
    GSt w ((wr.setCell ⟨g + 1 + 1 + 1, k, none⟩ (.bool true)).setCell ⟨g + 1 + 1, k, none⟩ (.int .i64 n)) g vo q vc (Se.openL l ⟨nm k, 1, n, false⟩) la (upd lm k n) (upd op k true) sh := by
  have e := h.gw
  refine ⟨e, bset (bset h.bel (by omega) _ _) (by omega) _ _, (h.names.far (by omega) _ _).far (by omega) _ _, (h.a5.far (by omega) _ _).far (by omega) _ _, ?_, ?_, (h.a8.far (by omega) _ _).far (by omega) _ _, (hL.far (fun ad ha => by have := hf ad ha; omega) _ _).far (fun ad ha => by have := hf ad ha; omega) _ _, hf, (h.inv.opened hk ho hn).2.2, hL.len⟩
  · rw [← upd_int]
    exact (h.a6.far (by omega) _ _).set hk _
  · rw [← upd_bool]
    exact (h.a7.set hk _).far (by omega) _ _
/-- a series was shut -/
theorem GSt.shut (h : GSt w wr g lo p lc l la lm op sh) (hk : k ≤ 3) (ho : op k = true) (hs : sh k = false) (vo : Option Addr) (q vc : Nat) (hL : Sr.Ls wr vo q vc (Se.shutR l (nm k))) (hf : ∀ ad, vo = some ad → g + 5 ≤ ad.block) :
    GSt w (wr.setCell ⟨g + 1 + 1 + 1 + 1, k, none⟩ (.bool true)) g vo q vc (Se.shutR l (nm k)) la lm op (upd sh k true) := by
  have e := h.gw
  refine ⟨e, bset h.bel (by omega) _ _, h.names.far (by omega) _ _, h.a5.far (by omega) _ _, h.a6.far (by omega) _ _, h.a7.far (by omega) _ _, ?_, hL.far (fun ad ha => by have := hf ad ha; omega) _ _, hf, h.inv.shut hk ho hs, hL.len⟩
  rw [← upd_bool]
  exact h.a8.set hk _
/-- a number was taken -/
theorem GSt.took (h : GSt w wr g lo p lc l la lm op sh) (hk : k ≤ 3) (ho : op k = true) (hs : sh k = false) (hl : la k < lm k) (vo : Option Addr) (q vc : Nat) (hL : Sr.Ls wr vo q vc (Se.takeR l (nm k))) (hf : ∀ ad, vo = some ad → g + 5 ≤ ad.block) :
    GSt w (wr.setCell ⟨g + 1, k, none⟩ (.int .i64 (la k + 1))) g vo q vc (Se.takeR l (nm k)) (upd la k (la k + 1)) lm op sh := by
  have e := h.gw
  refine ⟨e, bset h.bel (by omega) _ _, h.names.far (by omega) _ _, ?_, h.a6.far (by omega) _ _, h.a7.far (by omega) _ _, h.a8.far (by omega) _ _, hL.far (fun ad ha => by have := hf ad ha; omega) _ _, hf, (h.inv.took hk ho hs hl).2.2, hL.len⟩
  rw [← upd_int]
  exact h.a5.set hk _
end
theorem shut_short {L : List Sr.T} {s : ByteArray} (hL : ∀ r ∈ L, Sr.Short r) : ∀ r ∈ Se.shutR L s, Sr.Short r := by
  intro r hr
  unfold Se.shutR at hr
  split at hr
  · rename_i h
    rcases Se.set_mem (Se.un_0 h).2.1 r hr with rfl | hr
    · have := hL _ (Se.own_mem (Se.un_0 h).2.1)
      exact ⟨this.1, this.2.1, this.2.2⟩
    · exact hL r hr
  · cases hr
theorem take_short {L : List Sr.T} {s : ByteArray} (hL : ∀ r ∈ L, Sr.Short r) : ∀ r ∈ Se.takeR L s, Sr.Short r := by
  intro r hr
  by_cases h : Se.unE L s = 0
  · by_cases k : (Se.own L s).limit < (Se.own L s).next
    · rw [(Se.take_full h k).2.2] at hr
      cases hr
    · rw [(Se.take_ok h k).2.2] at hr
      obtain ⟨h1, h2, h3⟩ := Se.un_0 h
      rcases Se.set_mem h2 r hr with rfl | hr
      · have := hL _ (Se.own_mem h2)
        obtain ⟨k1, k2, k3, k4⟩ := Se.sound_iff.1 (((Se.right_iff L).1 h1).2.1 _ (Se.own_mem h2))
        have k5 := Se.lim_iff.1 k2
        refine ⟨this.1, ?_, this.2.2⟩
        show -9223372036854775808 ≤ (Se.own L s).next + 1 ∧ (Se.own L s).next + 1 ≤ 9223372036854775807
        omega
      · exact hL r hr
  · rw [(Se.take_un h).2.2] at hr
    cases hr
theorem start_at (w : World) : GSt w (((((w.alloc (.cells #[.string ⟨#[97]⟩, .string ⟨#[98]⟩, .string ⟨#[82, 111, 116]⟩, .string ⟨#[122, 45, 57]⟩] 9)).alloc (.cells #[.int .i64 0, .int .i64 0, .int .i64 0, .int .i64 0] 47)).alloc (.cells #[.int .i64 0, .int .i64 0, .int .i64 0, .int .i64 0] 47)).alloc (.cells #[.bool false, .bool false, .bool false, .bool false] 48)).alloc (.cells #[.bool false, .bool false, .bool false, .bool false] 48)) w.heap.size none 0 0 [] (fun _ => 0) (fun _ => 0) (fun _ => false) (fun _ => false) := by
  have b : ∀ (x : World) (o : Obj), Below x.heap.size x (x.alloc o) := fun x o => (Below.refl _ _).alloc (Nat.le_refl _) o
  have hn := names_at w
  have hb := b w (.cells #[.string ⟨#[97]⟩, .string ⟨#[98]⟩, .string ⟨#[82, 111, 116]⟩, .string ⟨#[122, 45, 57]⟩] 9)
  have e1 : (w.alloc (.cells #[.string ⟨#[97]⟩, .string ⟨#[98]⟩, .string ⟨#[82, 111, 116]⟩, .string ⟨#[122, 45, 57]⟩] 9)).heap.size = w.heap.size + 1 := by simp
  generalize w.alloc (.cells #[.string ⟨#[97]⟩, .string ⟨#[98]⟩, .string ⟨#[82, 111, 116]⟩, .string ⟨#[122, 45, 57]⟩] 9) = x1 at *
  have h5 : Arr (x1.alloc (.cells #[.int .i64 0, .int .i64 0, .int .i64 0, .int .i64 0] 47)) (w.heap.size + 1) 47 (fun _ => .int .i64 0) := e1 ▸ heap_alloc_new x1 _
  have hb2 := bchain hb (b x1 (.cells #[.int .i64 0, .int .i64 0, .int .i64 0, .int .i64 0] 47))
  have hn2 := hn.below (b x1 (.cells #[.int .i64 0, .int .i64 0, .int .i64 0, .int .i64 0] 47))
  have e2 : (x1.alloc (.cells #[.int .i64 0, .int .i64 0, .int .i64 0, .int .i64 0] 47)).heap.size = w.heap.size + 1 + 1 := by rw [← e1]; simp
  generalize x1.alloc (.cells #[.int .i64 0, .int .i64 0, .int .i64 0, .int .i64 0] 47) = x2 at *
  have h6 : Arr (x2.alloc (.cells #[.int .i64 0, .int .i64 0, .int .i64 0, .int .i64 0] 47)) (w.heap.size + 1 + 1) 47 (fun _ => .int .i64 0) := e2 ▸ heap_alloc_new x2 _
  have hk5 := h5.below (b x2 (.cells #[.int .i64 0, .int .i64 0, .int .i64 0, .int .i64 0] 47))
  have hb3 := bchain hb2 (b x2 (.cells #[.int .i64 0, .int .i64 0, .int .i64 0, .int .i64 0] 47))
  have hn3 := hn2.below (b x2 (.cells #[.int .i64 0, .int .i64 0, .int .i64 0, .int .i64 0] 47))
  have e3 : (x2.alloc (.cells #[.int .i64 0, .int .i64 0, .int .i64 0, .int .i64 0] 47)).heap.size = w.heap.size + 1 + 1 + 1 := by rw [← e2]; simp
  generalize x2.alloc (.cells #[.int .i64 0, .int .i64 0, .int .i64 0, .int .i64 0] 47) = x3 at *
  have h7 : Arr (x3.alloc (.cells #[.bool false, .bool false, .bool false, .bool false] 48)) (w.heap.size + 1 + 1 + 1) 48 (fun _ => .bool false) := e3 ▸ heap_alloc_new x3 _
  have c := b x3 (.cells #[.bool false, .bool false, .bool false, .bool false] 48)
  have e4 : (x3.alloc (.cells #[.bool false, .bool false, .bool false, .bool false] 48)).heap.size = w.heap.size + 1 + 1 + 1 + 1 := by rw [← e3]; simp
  generalize x3.alloc (.cells #[.bool false, .bool false, .bool false, .bool false] 48) = x4 at *
  have h8 : Arr (x4.alloc (.cells #[.bool false, .bool false, .bool false, .bool false] 48)) (w.heap.size + 1 + 1 + 1 + 1) 48 (fun _ => .bool false) := e4 ▸ heap_alloc_new x4 _
  have d := b x4 (.cells #[.bool false, .bool false, .bool false, .bool false] 48)
  exact ⟨rfl, bchain (bchain hb3 c) d, (hn3.below c).below d, (hk5.below c).below d, (h6.below c).below d, h7.below d, h8, Sr.ls_nil _, (fun ad h => by cases h), inv_nil, rfl⟩
set_option maxHeartbeats 8000000 in
theorem seriesGapless_walk (zs : List Ak.T) (ao : Option Addr) (n cap : Nat) (w : World) (hA : Ak.Ls w ao n cap zs) :
    Calls Try.prog 5 #[.slice ao n cap] w fun e w' => e = .returned (.bool true) ∧ Below w.heap.size w w' := by
  have HA := Lib.hid hA
  have HAn := Lib.hid hA.len
  have hcap := hA.reach
  have hfit := hA.fits
  clear hA
  go_enter Try.func5, Try.ntmps5
  go_wp2_with fail
  have HS := Lib.hid (start_at w)
  generalize ((((w.alloc (.cells #[.string ⟨#[97]⟩, .string ⟨#[98]⟩, .string ⟨#[82, 111, 116]⟩, .string ⟨#[122, 45, 57]⟩] 9)).alloc (.cells #[.int .i64 0, .int .i64 0, .int .i64 0, .int .i64 0] 47)).alloc (.cells #[.int .i64 0, .int .i64 0, .int .i64 0, .int .i64 0] 47)).alloc (.cells #[.bool false, .bool false, .bool false, .bool false] 48)).alloc (.cells #[.bool false, .bool false, .bool false, .bool false] 48) = U at *
  generalize w.heap.size = g at HS ⊢
  go_loopw [3, 9, 10, 11, 12, 13, 14, 15, 16, 17, 18] (fun a i _ _ _ _ _ _ _ _ _ wr => ∃ (l : List Sr.T) (lo : Option Addr) (p lc j : Nat) (la lm : Nat → Int) (op sh : Nat → Bool), j ≤ n ∧ p ≤ 4 ∧ p ≤ lc ∧ lc ≤ 9223372036854775807 ∧ a = .slice lo p lc ∧ i = .int .i64 j ∧ Hid (GSt w wr g lo p lc l la lm op sh)) (fun _ i _ _ _ _ _ _ _ _ _ _ => n - (intOf i).toNat)
  case atStart => exact ⟨[], none, 0, 0, 0, fun _ => 0, fun _ => 0, fun _ => false, fun _ => false, by omega, by omega, by omega, by omega, rfl, rfl, HS⟩
  case round =>
    clear HS
    rename World => wz
    obtain ⟨l, lo, p, lc, j, la, lm, op, sh, hj, hp, hpc, hlc, rfl, rfl, H⟩ := hrel
    by_cases hlt : j < n ∧ j < 200
    · obtain ⟨hj1, hj2⟩ := hlt
      obtain ⟨b, off, rfl⟩ := HA.out.at (by omega)
      have hjl : j < zs.length := by have := HAn.out; omega
      have hrow := (HA.out.row j hjl).below H.out.bel
      have HSh := Lib.hid (HA.out.short _ (List.getElem_mem hjl))
      generalize zs[j] = z at *
      obtain ⟨g0, g1, g2⟩ := hrow
      go_wp2_with fail
      refine (bookWithin_any z.name 0 3 _ HSh.out.2.1 (by omega) (by omega) (by omega)).mono ?_
      rintro e w1 ⟨⟨k, rfl, hk0, hk1⟩, hw1⟩
      subst hw1
      have hk3 : k ≤ 3 := by omega
      have hk4 : k < 4 := by omega
      go_wp2_with fail
      refine (bookWithin_any z.limit 1 9 _ HSh.out.2.2 (by omega) (by omega) (by omega)).mono ?_
      rintro e w2 ⟨⟨r, rfl, hr0, hr1⟩, hw2⟩
      subst hw2
      have HLm := Lib.hid (lim_small hr0 hr1)
      have hnm := H.out.names k hk3
      by_cases hz1 : z.kind = 1
      · have hq1 : (z.kind == 1) = true := beq_iff_eq.2 hz1
        clear hz1
        go_wp2_with fail
        refine (ser_open l (nm k) r lo p lc _ H.out.ls (nm_size k)).mono ?_
        rintro e w3 ⟨v, rfl, o3, b3⟩
        have H2 := Lib.hid (H.out.below b3)
        have hB := H.out.size
        clear b3 g0 g1 g2 hnm
        have hc7 := H2.out.a7.cell hk3
        have hf7 := H2.out.a7.frozen (k := k)
        have hc6 := H2.out.a6.cell hk3
        have hf6 := H2.out.a6.frozen (k := k)
        cases ho : op k
        · obtain ⟨hE, hO, _⟩ := H.out.inv.opened hk3 ho HLm.out
          rw [hE]
          rw [hO] at o3
          obtain ⟨vo, vc, rfl, hV, hvf⟩ := own_far o3 (open_short H.out.ls.short (nm_size k) (fit_small hr1))
          have H4 := Lib.hid (H2.out.opened hk3 ho HLm.out vo _ vc hV (fun ad ha => by have := hvf ad ha; omega))
          have hv1 := hV.fits
          have hv2 := hV.reach
          rw [ho] at hc7
          clear hE hO hV hvf o3 H hB
          generalize Se.openL l ⟨nm k, 1, r, false⟩ = l2 at *
          generalize l2.length = p2 at *
          go_wp2_with fail
          refine (ser_right l2 vo p2 vc _ _ (Below.refl _ _) H4.out.ls).mono ?_
          rintro e w9 ⟨rfl, b9⟩
          rw [H4.out.inv.right]
          have H9 := Lib.hid (H4.out.below b9)
          clear b9
          go_wp2_with fail
          go_roundw
          case rel => exact ⟨l2, vo, p2, vc, j + 1, la, (upd lm k r), (upd op k true), sh, by omega, by have := H4.out.inv.less; have := H4.out.len; omega, H4.out.ls.fits, H4.out.ls.reach, rfl, by go_num, H9⟩
          case measure => simp [intOf]; omega
        · obtain ⟨hE, hO⟩ := H.out.inv.taken hk3 ho HLm.out
          rw [hE]
          rw [ho] at hc7
          clear hE hO o3 H hB
          go_wp2_with fail
          refine (ser_right l lo p lc _ _ (Below.refl _ _) H2.out.ls).mono ?_
          rintro e w9 ⟨rfl, b9⟩
          rw [H2.out.inv.right]
          have H9 := Lib.hid (H2.out.below b9)
          clear b9
          go_wp2_with fail
          go_roundw
          case rel => exact ⟨l, lo, p, lc, j + 1, la, lm, op, sh, by omega, by have := H2.out.inv.less; have := H2.out.len; omega, H2.out.ls.fits, H2.out.ls.reach, rfl, by go_num, H9⟩
          case measure => simp [intOf]; omega
      · have hq1 : (z.kind == 1) = false := beq_eq_false_iff_ne.2 hz1
        by_cases hz2 : z.kind = 2
        · have hq2 : (z.kind == 2) = true := beq_iff_eq.2 hz2
          clear hz1 hz2
          go_wp2_with fail
          refine (ser_shut l (nm k) lo p lc _ H.out.ls).mono ?_
          rintro e w3 ⟨v, rfl, o3, b3⟩
          have H2 := Lib.hid (H.out.below b3)
          have hB := H.out.size
          clear b3 g0 g1 g2 hnm
          have hc7 := H2.out.a7.cell hk3
          have hc8 := H2.out.a8.cell hk3
          have hf8 := H2.out.a8.frozen (k := k)
          cases ho : op k
          · have hE := H.out.inv.none hk3 ho
            rw [hE]
            rw [ho] at hc7
            clear hE o3 H hB
            go_wp2_with fail
            refine (ser_right l lo p lc _ _ (Below.refl _ _) H2.out.ls).mono ?_
            rintro e w9 ⟨rfl, b9⟩
            rw [H2.out.inv.right]
            have H9 := Lib.hid (H2.out.below b9)
            clear b9
            go_wp2_with fail
            go_roundw
            case rel => exact ⟨l, lo, p, lc, j + 1, la, lm, op, sh, by omega, by have := H2.out.inv.less; have := H2.out.len; omega, H2.out.ls.fits, H2.out.ls.reach, rfl, by go_num, H9⟩
            case measure => simp [intOf]; omega
          · cases hs : sh k
            · have hE := H.out.inv.isOpen hk3 ho hs
              rw [hE]
              rw [ho] at hc7
              rw [hs] at hc8
              obtain ⟨vo, vc, rfl, hV, hvf⟩ := own_far o3 (shut_short H.out.ls.short)
              have H4 := Lib.hid (H2.out.shut hk3 ho hs vo _ vc hV (fun ad ha => by have := hvf ad ha; omega))
              have hv1 := hV.fits
              have hv2 := hV.reach
              clear hE hV hvf o3 H hB
              generalize Se.shutR l (nm k) = l2 at *
              generalize l2.length = p2 at *
              go_wp2_with fail
              refine (ser_right l2 vo p2 vc _ _ (Below.refl _ _) H4.out.ls).mono ?_
              rintro e w9 ⟨rfl, b9⟩
              rw [H4.out.inv.right]
              have H9 := Lib.hid (H4.out.below b9)
              clear b9
              go_wp2_with fail
              go_roundw
              case rel => exact ⟨l2, vo, p2, vc, j + 1, la, lm, op, (upd sh k true), by omega, by have := H4.out.inv.less; have := H4.out.len; omega, H4.out.ls.fits, H4.out.ls.reach, rfl, by go_num, H9⟩
              case measure => simp [intOf]; omega
            · have hE := H.out.inv.isShut hk3 ho hs
              rw [hE]
              rw [ho] at hc7
              rw [hs] at hc8
              clear hE o3 H hB
              go_wp2_with fail
              refine (ser_right l lo p lc _ _ (Below.refl _ _) H2.out.ls).mono ?_
              rintro e w9 ⟨rfl, b9⟩
              rw [H2.out.inv.right]
              have H9 := Lib.hid (H2.out.below b9)
              clear b9
              go_wp2_with fail
              go_roundw
              case rel => exact ⟨l, lo, p, lc, j + 1, la, lm, op, sh, by omega, by have := H2.out.inv.less; have := H2.out.len; omega, H2.out.ls.fits, H2.out.ls.reach, rfl, by go_num, H9⟩
              case measure => simp [intOf]; omega
        · have hq2 : (z.kind == 2) = false := beq_eq_false_iff_ne.2 hz2
          clear hz1 hz2
          go_wp2_with fail
          refine (ser_take l (nm k) lo p lc _ H.out.ls).mono ?_
          rintro e w3 ⟨v, rfl, o3, b3⟩
          have H2 := Lib.hid (H.out.below b3)
          have hB := H.out.size
          clear b3 g0 g1 g2 hnm
          have hc5 := H2.out.a5.cell hk3
          have hf5 := H2.out.a5.frozen (k := k)
          have hc6 := H2.out.a6.cell hk3
          have hc7 := H2.out.a7.cell hk3
          have hc8 := H2.out.a8.cell hk3
          obtain ⟨bd1, bd2, _⟩ := H.out.inv.bound hk3
          cases ho : op k
          · have hE := Se.take_un (l := l) (s := nm k) (by rw [H.out.inv.none hk3 ho]; omega)
            rw [hE.1, H.out.inv.none hk3 ho]
            rw [ho] at hc7
            generalize Se.takeN l (nm k) = N at *
            clear hE o3 H hB
            have t5 := cell_regrown hc5
            have t6 := cell_regrown hc6
            have t7 := cell_regrown hc7
            have t8 := cell_regrown hc8
            go_wp2
            refine wp_region_quiet_below (by kernel_rfl) (by kernel_rfl) ?_
            repeat (first | go_big_quiet_step (fail) | quiet_step (fail))
            refine wpQuiet_nil ?_
            intro _ hw'
            obtain ⟨⟨dq, osq⟩, hw''⟩ := hw'
            subst hw''
            have HX := Lib.hid (below_regrown w3 dq osq)
            clear hc5 hf5 hc6 hc7 hc8 t5 t6 t7 t8
            replace H2 := Lib.hid (H2.out.below HX.out)
            generalize grow (redrawn w3 dq) osq = w4 at *
            go_wp2_with fail
            refine (ser_right l lo p lc _ _ (Below.refl _ _) H2.out.ls).mono ?_
            rintro e w9 ⟨rfl, b9⟩
            rw [H2.out.inv.right]
            have H9 := Lib.hid (H2.out.below b9)
            clear b9
            go_wp2_with fail
            go_roundw
            case rel => exact ⟨l, lo, p, lc, j + 1, la, lm, op, sh, by omega, by have := H2.out.inv.less; have := H2.out.len; omega, H2.out.ls.fits, H2.out.ls.reach, rfl, by go_num, H9⟩
            case measure => simp [intOf]; omega
          · cases hs : sh k
            · by_cases hl : la k < lm k
              · obtain ⟨hE, hN, _⟩ := H.out.inv.took hk3 ho hs hl
                rw [hE, hN]
                rw [ho] at hc7
                rw [hs] at hc8
                obtain ⟨vo, vc, rfl, hV, hvf⟩ := own_far o3 (take_short H.out.ls.short)
                have hv1 := hV.fits
                have hv2 := hV.reach
                have H4 : Hid (∀ u, Below w3.heap.size w3 u → GSt w (u.setCell ⟨g + 1, k, none⟩ (.int .i64 (la k + 1))) g vo (Se.takeR l (nm k)).length vc (Se.takeR l (nm k)) (upd la k (la k + 1)) lm op sh) := Lib.hid fun u hu => (H2.out.below hu).took hk3 ho hs hl vo _ vc (hV.below hu) (fun ad ha => by have := hvf ad ha; omega)
                have hd : decide (la k < lm k) = true := decide_eq_true hl
                have hn : (la k + 1 != la k + 1) = false := bne_self_eq_false _
                clear hE hN hV hvf o3 H hB
                generalize Se.takeR l (nm k) = l2 at *
                generalize l2.length = p2 at *
                have t5 := cell_regrown hc5
                have t6 := cell_regrown hc6
                have t7 := cell_regrown hc7
                have t8 := cell_regrown hc8
                go_wp2
                refine wp_region_quiet_below (by kernel_rfl) (by kernel_rfl) ?_
                repeat (first | go_big_quiet_step (fail) | quiet_step (fail))
                refine wpQuiet_nil ?_
                intro _ hw'
                obtain ⟨⟨dq, osq⟩, hw''⟩ := hw'
                subst hw''
                have HX := Lib.hid (below_regrown w3 dq osq)
                clear t5 t6 t7 t8 hc5 hf5 hc6 hc7 hc8
                have H5 := Lib.hid (H4.out _ HX.out)
                replace H2 := Lib.hid (H2.out.below HX.out)
                generalize grow (redrawn w3 dq) osq = w4 at *
                have hc5 := H2.out.a5.cell hk3
                have hf5 := H2.out.a5.frozen (k := k)
                clear H4 HX
                go_wp2_with fail
                refine (ser_right l2 vo p2 vc _ _ (Below.refl _ _) H5.out.ls).mono ?_
                rintro e w9 ⟨rfl, b9⟩
                rw [H5.out.inv.right]
                have H9 := Lib.hid (H5.out.below b9)
                clear b9
                go_wp2_with fail
                go_roundw
                case rel => exact ⟨l2, vo, p2, vc, j + 1, (upd la k (la k + 1)), lm, op, sh, by omega, by have := H5.out.inv.less; have := H5.out.len; omega, H5.out.ls.fits, H5.out.ls.reach, rfl, by go_num, H9⟩
                case measure => simp [intOf]; omega
              · obtain ⟨hE, hO⟩ := H.out.inv.used hk3 ho hs hl
                rw [hE]
                rw [ho] at hc7
                rw [hs] at hc8
                have hd : decide (la k < lm k) = false := decide_eq_false hl
                generalize Se.takeN l (nm k) = N at *
                clear hE hO o3 H hB
                have t5 := cell_regrown hc5
                have t6 := cell_regrown hc6
                have t7 := cell_regrown hc7
                have t8 := cell_regrown hc8
                go_wp2
                refine wp_region_quiet_below (by kernel_rfl) (by kernel_rfl) ?_
                repeat (first | go_big_quiet_step (fail) | quiet_step (fail))
                refine wpQuiet_nil ?_
                intro _ hw'
                obtain ⟨⟨dq, osq⟩, hw''⟩ := hw'
                subst hw''
                have HX := Lib.hid (below_regrown w3 dq osq)
                clear hc5 hf5 hc6 hc7 hc8 t5 t6 t7 t8
                replace H2 := Lib.hid (H2.out.below HX.out)
                generalize grow (redrawn w3 dq) osq = w4 at *
                go_wp2_with fail
                refine (ser_right l lo p lc _ _ (Below.refl _ _) H2.out.ls).mono ?_
                rintro e w9 ⟨rfl, b9⟩
                rw [H2.out.inv.right]
                have H9 := Lib.hid (H2.out.below b9)
                clear b9
                go_wp2_with fail
                go_roundw
                case rel => exact ⟨l, lo, p, lc, j + 1, la, lm, op, sh, by omega, by have := H2.out.inv.less; have := H2.out.len; omega, H2.out.ls.fits, H2.out.ls.reach, rfl, by go_num, H9⟩
                case measure => simp [intOf]; omega
            · have hE := Se.take_un (l := l) (s := nm k) (by rw [H.out.inv.isShut hk3 ho hs]; omega)
              rw [hE.1, H.out.inv.isShut hk3 ho hs]
              rw [ho] at hc7
              rw [hs] at hc8
              generalize Se.takeN l (nm k) = N at *
              clear hE o3 H hB
              have t5 := cell_regrown hc5
              have t6 := cell_regrown hc6
              have t7 := cell_regrown hc7
              have t8 := cell_regrown hc8
              go_wp2
              refine wp_region_quiet_below (by kernel_rfl) (by kernel_rfl) ?_
              repeat (first | go_big_quiet_step (fail) | quiet_step (fail))
              refine wpQuiet_nil ?_
              intro _ hw'
              obtain ⟨⟨dq, osq⟩, hw''⟩ := hw'
              subst hw''
              have HX := Lib.hid (below_regrown w3 dq osq)
              clear hc5 hf5 hc6 hc7 hc8 t5 t6 t7 t8
              replace H2 := Lib.hid (H2.out.below HX.out)
              generalize grow (redrawn w3 dq) osq = w4 at *
              go_wp2_with fail
              refine (ser_right l lo p lc _ _ (Below.refl _ _) H2.out.ls).mono ?_
              rintro e w9 ⟨rfl, b9⟩
              rw [H2.out.inv.right]
              have H9 := Lib.hid (H2.out.below b9)
              clear b9
              go_wp2_with fail
              go_roundw
              case rel => exact ⟨l, lo, p, lc, j + 1, la, lm, op, sh, by omega, by have := H2.out.inv.less; have := H2.out.len; omega, H2.out.ls.fits, H2.out.ls.reach, rfl, by go_num, H9⟩
              case measure => simp [intOf]; omega
    · have hcs : ¬ j < n ∨ (j < n ∧ ¬ j < 200) := by omega
      clear hlt
      rcases hcs with hcs | ⟨hcs1, hcs2⟩
      all_goals
        go_wp2_with fail
        refine (sruns w _ H.out.bel).mono ?_
        rintro e w7 ⟨rfl, b7⟩
        have HB7 := Lib.hid b7
        clear b7
        go_wp2_with fail
        go_ret
        exact ⟨rfl, HB7.out⟩
end Go.Proofs.Ytemifminohdhbaa
