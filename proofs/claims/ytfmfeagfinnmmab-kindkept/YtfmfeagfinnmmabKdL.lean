/- CONTRACTS OF PACKAGE kind: lay, Flat. (By genlay.py.) -/
import Derived.Test.YtfmfeagfinnmmabKdC
namespace Go.Proofs.Ytfmfeagfinnmmab
open Go.RowKit
open Vl (T)
open Mem Tg

/-- what lay answers -/
def layP (t : Th) (v sv : Value) (ls : List T) (within : Nat) (w0 w : World) : Prop :=
  Calls Try.prog 21 #[sv, tv v, .int .i64 (within : Int)] w fun e w' =>
    ((t.fits within ls.length ∧ ∃ sv', e = .returned (.tuple #[sv', .int .i64 0]) ∧ Vl.Own w' w0.heap.size sv' (ls ++ t.flat)) ∨
     (¬ t.fits within ls.length ∧ e = .returned (.tuple #[.slice none 0 0, .int .i64 2]))) ∧ Below w0.heap.size w0 w'
theorem own_val {w : World} {B : Nat} {v : Value} {xs : List T} (h : Vl.Own w B v xs) : ∃ ao cap, v = .slice ao xs.length cap := by
  rcases h.2 with ⟨h', h2⟩ | ⟨g, cap, cur, h', _⟩
  · exact ⟨none, 0, by rw [h', h2]⟩
  · exact ⟨_, cap, h'⟩
theorem is_at {w0 w : World} {t : Th} {v : Value} (h : Is (fun b => b < w0.heap.size) w0 t v) (k : Below w0.heap.size w0 w) : Is (fun b => b < w0.heap.size) w t v := h.old fun b o hb => (bcell k).1 b o hb
theorem is_kids {A : Nat → Prop} {w : World} {t : Th} {v : Value} (h : Is A w t v) : ∃ ks vs ao n cap, t.kids = ks ∧ n = ks.length ∧ n ≤ 100000 ∧ n ≤ cap ∧ cap ≤ 9223372036854775807 ∧ SegV A w ao vs ∧ Each A w ks vs ∧
    (∀ u, (Instr.typeAssert v 24 57 true).run Try.prog u = .ok (.tuple #[.slice ao n cap, .bool (t.kind == 5)]) u) := by
  cases h with
  | nothing => exact ⟨[], [], none, 0, 0, rfl, rfl, by omega, by omega, by omega, .inl rfl, .nil, ask_nil_list⟩
  | num h => exact ⟨[], [], none, 0, 0, rfl, rfl, by omega, by omega, by omega, .inl rfl, .nil, ask_number_list _⟩
  | text h => exact ⟨[], [], none, 0, 0, rfl, rfl, by omega, by omega, by omega, .inl rfl, .nil, ask_text_list _⟩
  | flag => exact ⟨[], [], none, 0, 0, rfl, rfl, by omega, by omega, by omega, .inl rfl, .nil, ask_flag_list _⟩
  | day _ _ _ => exact ⟨[], [], none, 0, 0, rfl, rfl, by omega, by omega, by omega, .inl rfl, .nil, ask_day_list _⟩
  | @list ts vs ao n cap h1 h2 h3 h4 h5 h6 h7 h8 => exact ⟨ts, vs, ao, n, cap, rfl, h1, h5, h3, h4, h7, ⟨h1.symm.trans h2, h8⟩, ask_list_list _⟩
set_option maxHeartbeats 4000000 in
theorem lay_step (t : Th) (v sv : Value) (ls : List T) (within : Nat) (w0 w : World) (hw : Below w0.heap.size w0 w) (hI : Is (fun b => b < w0.heap.size) w0 t v) (hO : Vl.Own w w0.heap.size sv ls) (hl : ls.length ≤ 200) (hd : within ≤ 16)
    (ih : ∀ (s : Th) (x sy : Value) (ms : List T) (u0 u : World), within + 1 ≤ 16 → Below u0.heap.size u0 u → Is (fun b => b < u0.heap.size) u0 s x → Vl.Own u u0.heap.size sy ms → ms.length ≤ 200 → layP s x sy ms (within + 1) u0 u) : layP t v sv ls within w0 w := by
  obtain ⟨ao, cap, rfl⟩ := own_val hO
  obtain ⟨ks, vs, ko, n, kc, hks, hn, hn9, hnc, hkc, hseg, hE, hta⟩ := is_kids hI
  have h1 := hI.oneCell
  have HW := Lib.hid hw
  have HI := Lib.hid hI
  have HO := Lib.hid hO
  have HKs := Lib.hid hks
  have HN := Lib.hid hn
  have HS := Lib.hid hseg
  have HE := Lib.hid hE
  have hcap : ls.length ≤ 9223372036854775807 := by omega
  obtain ⟨k0, hk0⟩ : ∃ k0, ls.length = k0 := ⟨_, rfl⟩
  have HK0 := Lib.hid hk0
  rw [hk0] at hl hcap HO
  have HIh : Hid (∀ (s : Th) (x sy : Value) (ms : List T) (u0 u : World), within + 1 ≤ 16 → Below u0.heap.size u0 u → Is (fun b => b < u0.heap.size) u0 s x → Vl.Own u u0.heap.size sy ms → ms.length ≤ 200 → layP s x sy ms (within + 1) u0 u) := Lib.hid ih
  unfold layP tv
  rw [hk0]
  clear hw hI hO hks hn hseg hE hk0 ih
  by_cases hfull : k0 = 200
  · subst hfull
    go_enter Try.func21, Try.ntmps21
    go_wp2_with fail
    go_ret2
    exact ⟨.inr ⟨Th.not_fits_full (Nat.le_refl _), rfl⟩, below_box HW.out _⟩
  have q200 : ((k0 : Int) == 200) = false := beq_eq_false_iff_ne.2 (by omega)
  cases hlist : (t.kind == 5)
  · rw [hlist] at hta
    have H5 : Hid (t.kind = 5 → within < 16) := Lib.hid (fun h => absurd h (beq_eq_false_iff_ne.1 hlist))
    have H16 : Hid (0 < n → within + 1 ≤ 16) := Lib.hid (fun h => by
      have := Th.kids_none (t := t) (beq_eq_false_iff_ne.1 hlist)
      rw [HKs.out] at this
      rw [HN.out, this] at h
      simp at h)
    clear hlist
    have HWx := Lib.hid (below_box HW.out (.cells #[v] 26))
    go_enter Try.func21, Try.ntmps21
    go_wp2_with fail
    refine (kind_head t v _ _ (Below.refl _ _) (is_at HI.out HWx.out)).mono ?_
    rintro e w1 ⟨rfl, b1⟩
    have HO1 : Hid (∀ o, Vl.Own (w1.alloc o) w0.heap.size (.slice ao k0 cap) ls) := fun o => Vl.own_alloc (Vl.own_below (Vl.own_alloc HO.out _) b1) o
    have HB1 := Lib.hid (bchain HWx.out b1)
    have hsz1 := HB1.out.size
    obtain ⟨x, hx⟩ : ∃ x, t.head = x := ⟨_, rfl⟩
    rw [hx]
    have HX := Lib.hid hx
    clear b1 hx
    unfold Vl.val
    go_wp2_with (at_builtin; go_must (refine Vl.wpList_append _ rfl (.tmp 29) (.tmp 32) rfl w0.heap.size (.slice ao k0 cap) ls rfl (HO1.out _) (some ⟨w1.heap.size, 0, none⟩) 1 1 [x] rfl rfl (fun h => by cases h) (Vl.seg_block (heap_alloc_new w1 _)) (by rw [HK0.out]; omega) (by simp; omega) ?_))
    intro v1 y1 o1 gr1 _
    have hb1 := (below_box HB1.out (Vl.block x)).grown gr1 (below_box HB1.out (Vl.block x)).size (Vl.own_ge (HO1.out (Vl.block x)))
    have HO2 : Hid (Vl.Own y1 w0.heap.size v1 (ls ++ x :: Th.flats (ks.take 0))) := Lib.hid (by simpa [Th.flats] using o1)
    have HB2 := Lib.hid hb1
    clear o1 gr1 hb1
    go_wp2_with fail
    go_loopw [0, 11, 12, 36] (fun l _ _ i wr => ∃ (j : Nat) (lv : Value), lv = l ∧ j ≤ n ∧ i = .int .i64 j ∧ Hid (Vl.Own wr w0.heap.size lv (ls ++ x :: Th.flats (ks.take j))) ∧ Hid (k0 + 1 + (Th.flats (ks.take j)).length ≤ 200 ∧ ∀ s ∈ ks.take j, Th.okD s (within + 1)) ∧ Hid (Below w0.heap.size w0 wr)) (fun _ _ _ i _ => n - (intOf i).toNat)
    case atStart => exact ⟨0, v1, rfl, by omega, rfl, HO2, Lib.hid ⟨by simp [Th.flats]; omega, by simp⟩, HB2⟩
    case round =>
      obtain ⟨j, l, rfl, hj, rfl, HOj, HLj, HBj⟩ := hrel
      by_cases hlt : j < n
      · have hjk : j < ks.length := HN.out ▸ hlt
        have hjv : j < vs.length := HE.out.1 ▸ hjk
        obtain ⟨z, hz⟩ : ∃ z, vs[j] = z := ⟨_, rfl⟩
        obtain ⟨s, hs⟩ : ∃ s, ks[j] = s := ⟨_, rfl⟩
        have hIs := HE.out.2 j hjk hjv
        rw [hz, hs] at hIs
        have hz1 := hIs.oneCell
        obtain ⟨b, off, rfl, hbA, hcell⟩ := HS.out.resolve_left (by intro e; rw [e] at hjv; simp at hjv)
        have hc := hcell j hjv
        rw [hz, ← (bcell HBj.out).1 _ _ hbA] at hc
        have HIs := Lib.hid hIs
        have HSj := Lib.hid hs
        clear hIs hcell hz hs
        have hst := store_fresh wr z hz1
        go_wp2_with fail
        have HBx := Lib.hid (below_box HBj.out (.cells #[z] 26))
        have hcall := HIh.out s z l (ls ++ x :: Th.flats (ks.take j)) w0 _ (H16.out (by omega)) HBx.out HIs.out (Vl.own_alloc HOj.out (.cells #[z] 26)) (by rw [List.length_append, List.length_cons, HK0.out]; have := HLj.out.1; omega)
        unfold layP tv at hcall
        rw [show ((within + 1 : Nat) : Int) = (within : Int) + 1 from by omega] at hcall
        refine hcall.mono ?_
        rintro e w3 ⟨he, b3⟩
        have HB3 := Lib.hid b3
        have hlen : (ls ++ x :: Th.flats (ks.take j)).length = k0 + 1 + (Th.flats (ks.take j)).length := by rw [List.length_append, List.length_cons, HK0.out]; omega
        clear b3 hcall
        rcases he with ⟨hf, sv', rfl, o3⟩ | ⟨hf, rfl⟩
        · have HO3 : Hid (Vl.Own w3 w0.heap.size sv' (ls ++ x :: Th.flats (ks.take (j + 1)))) := Lib.hid (by
            rw [Th.flats_take hjk, HSj.out]
            simpa using o3)
          have HL3 : Hid (k0 + 1 + (Th.flats (ks.take (j + 1))).length ≤ 200 ∧ ∀ s ∈ ks.take (j + 1), Th.okD s (within + 1)) := Lib.hid (by
            rw [hlen] at hf
            obtain ⟨f1, f2⟩ := hf
            refine ⟨by rw [Th.flats_take hjk, List.length_append, HSj.out]; omega, ?_⟩
            intro q hq
            rw [List.take_add_one, List.getElem?_eq_getElem hjk, Option.toList_some, List.mem_append] at hq
            rcases hq with hq | hq
            · exact HLj.out.2 q hq
            · rw [List.mem_singleton.1 hq, HSj.out]
              exact f1)
          clear o3 hf hlen
          go_wp2_with fail
          go_roundw
          case rel => exact ⟨j + 1, sv', rfl, by omega, by go_num, HO3, HL3, HB3⟩
          case measure => simp [intOf]; omega
        · have HF : Hid (¬ t.fits within k0) := Lib.hid (by
            rw [hlen] at hf
            refine Th.not_fits_kid (t := t) (j := j) (by rw [HKs.out]; exact hjk) ?_
            simp only [HKs.out, HSj.out]
            exact hf)
          clear hf hlen
          go_wp2_with fail
          go_ret2
          exact ⟨.inr ⟨HF.out, rfl⟩, HB3.out⟩
      · obtain rfl : j = n := by omega
        have HF : Hid (t.fits within k0 ∧ ls ++ x :: Th.flats (ks.take j) = ls ++ t.flat) := Lib.hid (by
          have ht : ks.take j = ks := List.take_of_length_le (by rw [← HN.out]; exact Nat.le_refl _)
          have hL := HLj.out
          rw [ht] at hL ⊢
          refine ⟨Th.fits_of H5.out (by rw [HKs.out]; exact hL.2) (by rw [HKs.out]; exact hL.1), ?_⟩
          rw [Th.flat_eq, HKs.out, HX.out])
        go_wp2_with fail
        go_ret2
        exact ⟨.inl ⟨HF.out.1, l, rfl, by rw [← HF.out.2]; exact HOj.out⟩, HBj.out⟩
  · rw [hlist] at hta
    by_cases h16 : 16 ≤ within
    · have HF := Lib.hid (Th.not_fits_deep (before := k0) (beq_iff_eq.1 hlist) h16)
      go_enter Try.func21, Try.ntmps21
      go_wp2_with fail
      go_ret2
      exact ⟨.inr ⟨HF.out, rfl⟩, below_box HW.out _⟩
    have H5 : Hid (t.kind = 5 → within < 16) := Lib.hid (fun _ => by omega)
    have H16 : Hid (0 < n → within + 1 ≤ 16) := Lib.hid (fun _ => by omega)
    clear hlist
    have HWx := Lib.hid (below_box HW.out (.cells #[v] 26))
    go_enter Try.func21, Try.ntmps21
    go_wp2_with fail
    refine (kind_head t v _ _ (Below.refl _ _) (is_at HI.out HWx.out)).mono ?_
    rintro e w1 ⟨rfl, b1⟩
    have HO1 : Hid (∀ o, Vl.Own (w1.alloc o) w0.heap.size (.slice ao k0 cap) ls) := fun o => Vl.own_alloc (Vl.own_below (Vl.own_alloc HO.out _) b1) o
    have HB1 := Lib.hid (bchain HWx.out b1)
    have hsz1 := HB1.out.size
    obtain ⟨x, hx⟩ : ∃ x, t.head = x := ⟨_, rfl⟩
    rw [hx]
    have HX := Lib.hid hx
    clear b1 hx
    unfold Vl.val
    go_wp2_with (at_builtin; go_must (refine Vl.wpList_append _ rfl (.tmp 29) (.tmp 32) rfl w0.heap.size (.slice ao k0 cap) ls rfl (HO1.out _) (some ⟨w1.heap.size, 0, none⟩) 1 1 [x] rfl rfl (fun h => by cases h) (Vl.seg_block (heap_alloc_new w1 _)) (by rw [HK0.out]; omega) (by simp; omega) ?_))
    intro v1 y1 o1 gr1 _
    have hb1 := (below_box HB1.out (Vl.block x)).grown gr1 (below_box HB1.out (Vl.block x)).size (Vl.own_ge (HO1.out (Vl.block x)))
    have HO2 : Hid (Vl.Own y1 w0.heap.size v1 (ls ++ x :: Th.flats (ks.take 0))) := Lib.hid (by simpa [Th.flats] using o1)
    have HB2 := Lib.hid hb1
    clear o1 gr1 hb1
    go_wp2_with fail
    go_loopw [0, 11, 12, 36] (fun l _ _ i wr => ∃ (j : Nat) (lv : Value), lv = l ∧ j ≤ n ∧ i = .int .i64 j ∧ Hid (Vl.Own wr w0.heap.size lv (ls ++ x :: Th.flats (ks.take j))) ∧ Hid (k0 + 1 + (Th.flats (ks.take j)).length ≤ 200 ∧ ∀ s ∈ ks.take j, Th.okD s (within + 1)) ∧ Hid (Below w0.heap.size w0 wr)) (fun _ _ _ i _ => n - (intOf i).toNat)
    case atStart => exact ⟨0, v1, rfl, by omega, rfl, HO2, Lib.hid ⟨by simp [Th.flats]; omega, by simp⟩, HB2⟩
    case round =>
      obtain ⟨j, l, rfl, hj, rfl, HOj, HLj, HBj⟩ := hrel
      by_cases hlt : j < n
      · have hjk : j < ks.length := HN.out ▸ hlt
        have hjv : j < vs.length := HE.out.1 ▸ hjk
        obtain ⟨z, hz⟩ : ∃ z, vs[j] = z := ⟨_, rfl⟩
        obtain ⟨s, hs⟩ : ∃ s, ks[j] = s := ⟨_, rfl⟩
        have hIs := HE.out.2 j hjk hjv
        rw [hz, hs] at hIs
        have hz1 := hIs.oneCell
        obtain ⟨b, off, rfl, hbA, hcell⟩ := HS.out.resolve_left (by intro e; rw [e] at hjv; simp at hjv)
        have hc := hcell j hjv
        rw [hz, ← (bcell HBj.out).1 _ _ hbA] at hc
        have HIs := Lib.hid hIs
        have HSj := Lib.hid hs
        clear hIs hcell hz hs
        have hst := store_fresh wr z hz1
        go_wp2_with fail
        have HBx := Lib.hid (below_box HBj.out (.cells #[z] 26))
        have hcall := HIh.out s z l (ls ++ x :: Th.flats (ks.take j)) w0 _ (H16.out (by omega)) HBx.out HIs.out (Vl.own_alloc HOj.out (.cells #[z] 26)) (by rw [List.length_append, List.length_cons, HK0.out]; have := HLj.out.1; omega)
        unfold layP tv at hcall
        rw [show ((within + 1 : Nat) : Int) = (within : Int) + 1 from by omega] at hcall
        refine hcall.mono ?_
        rintro e w3 ⟨he, b3⟩
        have HB3 := Lib.hid b3
        have hlen : (ls ++ x :: Th.flats (ks.take j)).length = k0 + 1 + (Th.flats (ks.take j)).length := by rw [List.length_append, List.length_cons, HK0.out]; omega
        clear b3 hcall
        rcases he with ⟨hf, sv', rfl, o3⟩ | ⟨hf, rfl⟩
        · have HO3 : Hid (Vl.Own w3 w0.heap.size sv' (ls ++ x :: Th.flats (ks.take (j + 1)))) := Lib.hid (by
            rw [Th.flats_take hjk, HSj.out]
            simpa using o3)
          have HL3 : Hid (k0 + 1 + (Th.flats (ks.take (j + 1))).length ≤ 200 ∧ ∀ s ∈ ks.take (j + 1), Th.okD s (within + 1)) := Lib.hid (by
            rw [hlen] at hf
            obtain ⟨f1, f2⟩ := hf
            refine ⟨by rw [Th.flats_take hjk, List.length_append, HSj.out]; omega, ?_⟩
            intro q hq
            rw [List.take_add_one, List.getElem?_eq_getElem hjk, Option.toList_some, List.mem_append] at hq
            rcases hq with hq | hq
            · exact HLj.out.2 q hq
            · rw [List.mem_singleton.1 hq, HSj.out]
              exact f1)
          clear o3 hf hlen
          go_wp2_with fail
          go_roundw
          case rel => exact ⟨j + 1, sv', rfl, by omega, by go_num, HO3, HL3, HB3⟩
          case measure => simp [intOf]; omega
        · have HF : Hid (¬ t.fits within k0) := Lib.hid (by
            rw [hlen] at hf
            refine Th.not_fits_kid (t := t) (j := j) (by rw [HKs.out]; exact hjk) ?_
            simp only [HKs.out, HSj.out]
            exact hf)
          clear hf hlen
          go_wp2_with fail
          go_ret2
          exact ⟨.inr ⟨HF.out, rfl⟩, HB3.out⟩
      · obtain rfl : j = n := by omega
        have HF : Hid (t.fits within k0 ∧ ls ++ x :: Th.flats (ks.take j) = ls ++ t.flat) := Lib.hid (by
          have ht : ks.take j = ks := List.take_of_length_le (by rw [← HN.out]; exact Nat.le_refl _)
          have hL := HLj.out
          rw [ht] at hL ⊢
          refine ⟨Th.fits_of H5.out (by rw [HKs.out]; exact hL.2) (by rw [HKs.out]; exact hL.1), ?_⟩
          rw [Th.flat_eq, HKs.out, HX.out])
        go_wp2_with fail
        go_ret2
        exact ⟨.inl ⟨HF.out.1, l, rfl, by rw [← HF.out.2]; exact HOj.out⟩, HBj.out⟩
theorem lay_any : ∀ (f : Nat) (t : Th) (v sv : Value) (ls : List T) (within : Nat) (w0 w : World), within + f = 16 → Below w0.heap.size w0 w → Is (fun b => b < w0.heap.size) w0 t v → Vl.Own w w0.heap.size sv ls → ls.length ≤ 200 → layP t v sv ls within w0 w
  | 0, t, v, sv, ls, within, w0, w, h, hw, hI, hO, hl => lay_step t v sv ls within w0 w hw hI hO hl (by omega) (fun _ _ _ _ _ _ k => by omega)
  | f + 1, t, v, sv, ls, within, w0, w, h, hw, hI, hO, hl => lay_step t v sv ls within w0 w hw hI hO hl (by omega) (fun s x sy ms u0 u _ a b c d => lay_any f s x sy ms (within + 1) u0 u (by omega) a b c d)
/-- Flat: a thing that lies below the mark -/
theorem kind_flat (t : Th) (v : Value) (w0 w : World) (hw : Below w0.heap.size w0 w) (hI : Is (fun b => b < w0.heap.size) w0 t v) :
    Calls Try.prog 9 #[tv v] w fun e w' =>
      ((t.fits 0 0 ∧ ∃ sv', e = .returned (.tuple #[sv', .int .i64 0]) ∧ Vl.Own w' w0.heap.size sv' t.flat) ∨ (¬ t.fits 0 0 ∧ e = .returned (.tuple #[.slice none 0 0, .int .i64 2]))) ∧ Below w0.heap.size w0 w' := by
  have h1 := hI.oneCell
  have HB := Lib.hid (below_box hw (.cells #[v] 26))
  have hcall := lay_any 16 t v (.slice none 0 0) [] 0 w0 _ rfl HB.out hI (Vl.own_nil _ _) (by simp)
  unfold layP tv at hcall
  have HC := Lib.hid hcall
  clear hcall hw hI
  unfold tv
  go_enter Try.func9, Try.ntmps9
  go_wp2_with fail
  refine HC.out.mono ?_
  rintro e w1 ⟨he, b1⟩
  have HB1 := Lib.hid b1
  clear b1
  rcases he with ⟨hf, sv', rfl, o1⟩ | ⟨hf, rfl⟩
  · have HO := Lib.hid o1
    have HF := Lib.hid hf
    clear o1 hf
    go_wp2_with fail
    go_ret2
    exact ⟨.inl ⟨HF.out, sv', rfl, by simpa using HO.out⟩, HB1.out⟩
  · have HF := Lib.hid hf
    clear hf
    go_wp2_with fail
    go_ret2
    exact ⟨.inr ⟨HF.out, rfl⟩, HB1.out⟩
end Go.Proofs.Ytfmfeagfinnmmab
