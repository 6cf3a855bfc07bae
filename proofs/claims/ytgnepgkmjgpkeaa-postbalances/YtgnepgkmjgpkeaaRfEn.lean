/- THE DOCUMENT's OWN ANSWER: impostref8's Enter. (By genren.py.) -/
import Derived.Test.YtgnepgkmjgpkeaaRfBk
import Derived.Test.YtgnepgkmjgpkeaaRefMonN
import Derived.Deep.RegionHeld3
set_option maxRecDepth 100000
set_option linter.unusedVariables false
namespace Go.Proofs.Ytgnepgkmjgpkeaa
open Go.RowKit
open Mem
open Go.Sort (grow)

/-- what Enter answers: a book in new memory, and why there is none -/
def EnterE (w : World) (b l : List Ba.T) (e : Ending) (w' : World) : Prop := ∃ v, e = .returned (.tuple #[v, .int .i64 (Po.entE b l)]) ∧ Ba.Own w' w.heap.size v (Po.entL b l) ∧ Below w.heap.size w w'
structure ESt (w wr : World) (vo : Option Addr) (q vc : Nat) (M : List Ba.T) : Prop where
  bel : Below w.heap.size w wr
  own : Ba.Own wr w.heap.size (.slice vo q vc) M
  sh : ∀ r ∈ M, Ba.Short r
section
variable {w wr v : World} {vo : Option Addr} {q vc : Nat} {M : List Ba.T}
theorem ESt.below (h : ESt w wr vo q vc M) (b : Below wr.heap.size wr v) : ESt w v vo q vc M := ⟨bchain h.bel b, Ba.own_below h.own b, h.sh⟩
theorem ESt.len (h : ESt w wr vo q vc M) : q = M.length ∧ q ≤ vc ∧ vc ≤ 9223372036854775807 ∧ Ba.Ls wr vo q vc M := by
  obtain ⟨ao, cap, e, hL, _⟩ := Ba.own_ls h.own h.sh
  simp only [Value.slice.injEq] at e
  obtain ⟨e1, e2, e3⟩ := e
  subst e1 e3
  rw [← e2] at hL
  exact ⟨e2, hL.fits, hL.reach, hL⟩
theorem ESt.at (h : ESt w wr vo q vc M) (k : Nat) (hk : k < M.length) : ∃ b, vo = some ⟨b, 0, none⟩ ∧ w.heap.size ≤ b ∧ Ba.At wr b (k * 2) M[k] ∧ (∀ o, wr.frozen? ⟨b, o, none⟩ = false) := by
  obtain ⟨ao, cap, e, hL, hg⟩ := Ba.own_ls h.own h.sh
  simp only [Value.slice.injEq] at e
  obtain ⟨e1, e2, e3⟩ := e
  subst e1 e3
  obtain ⟨b, off, hb⟩ := hL.at (by omega)
  obtain ⟨b', hb', hB⟩ := hg _ hb
  rw [hb'] at hb
  subst hb
  obtain ⟨h1, h2, h3⟩ := Ba.own_at h.own k hk
  exact ⟨b', rfl, hB, h1, h2⟩
theorem ESt.put (h : ESt w wr vo q vc M) {b : Nat} (hv : vo = some ⟨b, 0, none⟩) (hb : w.heap.size ≤ b) (k p : Nat) (hk : k < M.length) (hp : p < 2) (x : Value) (r : Ba.T) (hr : Ba.rv r = (Ba.rv M[k]).set p x) (hs : Ba.Short r) : ESt w (wr.setCell ⟨b, k * 2 + p, none⟩ x) vo q vc (M.set k r) := by
  subst hv
  refine ⟨bset h.bel hb _ _, Ba.own_put h.own k p hk hp x r hr, ?_⟩
  intro a ha
  rcases List.mem_or_eq_of_mem_set ha with ha | rfl
  · exact h.sh a ha
  · exact hs
end
theorem Iv_err_0 {x : Int} (h : Mn.err x = 0) : Mn.Fit x := by
  unfold Mn.err at h
  split at h
  · assumption
  · omega
theorem Po.part_short {c : ByteArray} (hc : c.size ≤ 140737488355328) : ∀ {M : List Ba.T}, (∀ r ∈ M, Ba.Short r) → Ba.Short (Po.part c M)
  | [], _ => ⟨hc, ⟨by show (-9223372036854775808 : Int) ≤ 0; omega, by show (0 : Int) ≤ _; omega⟩⟩
  | a :: l, hs => by
    unfold Po.part
    split
    · exact Po.part_short hc fun x hx => hs x (by simp [hx])
    · split
      · exact hs a (by simp)
      · exact ⟨hc, ⟨by show (-9223372036854775808 : Int) ≤ 0; omega, by show (0 : Int) ≤ _; omega⟩⟩
theorem Po.ins_short {c : ByteArray} (hc : c.size ≤ 140737488355328) : ∀ {M : List Ba.T}, (∀ r ∈ M, Ba.Short r) → ∀ r ∈ Po.ins c M, Ba.Short r
  | [], _, r, hr => by
    obtain rfl := List.mem_singleton.1 hr
    exact ⟨hc, ⟨by show (-9223372036854775808 : Int) ≤ 0; omega, by show (0 : Int) ≤ _; omega⟩⟩
  | a :: l, hs, r, hr => by
    unfold Po.ins at hr
    split at hr
    · rcases List.mem_cons.1 hr with rfl | hr
      · exact hs _ (by simp)
      · exact Po.ins_short hc (fun x hx => hs x (by simp [hx])) r hr
    · split at hr
      · exact hs r hr
      · rcases List.mem_cons.1 hr with rfl | hr
        · exact ⟨hc, ⟨by show (-9223372036854775808 : Int) ≤ 0; omega, by show (0 : Int) ≤ _; omega⟩⟩
        · exact hs r hr
set_option maxHeartbeats 8000000 in
theorem rent_any (bs ls : List Ba.T) (ao bo : Option Addr) (n ca k0 cb : Nat) (w : World) (hB : Ba.Ls w ao n ca bs) (hL : Ba.Ls w bo k0 cb ls) (hn : n ≤ 1000) (hk0 : k0 ≤ 1000) :
    Calls Try.prog 16 #[.slice ao n ca, .slice bo k0 cb] w (EnterE w bs ls) := by
  have HBs := Lib.hid hB
  have HL := Lib.hid hL
  have HN := Lib.hid hB.len
  have HLn := Lib.hid hL.len
  have hca := hB.reach
  have hna := hB.fits
  have hcb := hL.reach
  have hfb := hL.fits
  clear hB hL
  go_enter Try.func16, Try.ntmps16
  go_wp2_with fail
  refine (rbook_right bs ao n ca w _ (Below.refl _ _) HBs.out).mono ?_
  rintro e w1 ⟨rfl, b1⟩
  have HB1 := Lib.hid b1
  have HBs1 := Lib.hid (HBs.out.below b1)
  clear b1
  cases hT : Po.rightB bs
  · have HP := Lib.hid (Po.ent_arg (l := ls) hT)
    clear hT
    go_wp2_with fail
    go_ret2
    exact ⟨_, by rw [HP.out.1]; rfl, by rw [HP.out.2]; exact Ba.own_nil _ _, HB1.out⟩
  · have HT := Lib.hid (Po.ent_go (l := ls) hT)
    clear hT
    have hsz1 : w.heap.size ≤ w1.heap.size := HB1.out.size
    go_wp2_with (at_builtin; go_must (refine Ba.wpList_append _ rfl (.tmp 14) (.tmp 15) rfl w.heap.size (.slice (some ⟨w1.heap.size, 0, none⟩) 0 0) [] rfl (Ba.own_empty hsz1 (heap_alloc_new w1 _)) ao n ca bs rfl HBs1.out.len HBs1.out.nil ((HBs1.out.below ((Below.refl _ _).alloc (Nat.le_refl _) _)).seg) (by simp only [List.length_nil]; omega) (by simp; omega) ?_))
    intro v1 w2 o1 gr1 _
    have hB2 : Below w.heap.size w w2 := (below_box HB1.out _).grown gr1 (by simp; omega) (fun j hj => by simp only [Value.ownBlock, Option.some.injEq] at hj; omega)
    try rw [List.nil_append] at o1
    obtain ⟨va, vc0, hv1, hV, _⟩ := Ba.own_ls o1 HBs.out.short
    subst hv1
    have HE0 : Hid (ESt w w2 va bs.length vc0 bs) := Lib.hid ⟨hB2, o1, HBs.out.short⟩
    rw [← HN.out] at HE0
    rw [← HN.out]
    clear gr1 o1 hV hB2 hsz1
    go_wp2_with fail
    go_loopw [6, 7, 8, 9, 10] (fun t i _ _ _ wr => ∃ (k : Nat) (vo : Option Addr) (q vc : Nat) (M : List Ba.T), k ≤ k0 ∧ i = .int .i64 k ∧ t = .slice vo q vc ∧ Hid (ESt w wr vo q vc M) ∧ Hid (Po.goE (ls.drop k) M = Po.goE ls bs ∧ Po.goL (ls.drop k) M = Po.goL ls bs ∧ q ≤ n + k)) (fun _ i _ _ _ _ => k0 - (intOf i).toNat)
    case atStart => exact ⟨0, va, n, vc0, bs, by omega, rfl, rfl, HE0, Lib.hid ⟨rfl, rfl, Nat.le_refl _⟩⟩
    case round =>
      clear HE0 HB1 HBs1
      rename World => wz
      obtain ⟨k, vo, q, vc, M, hk, rfl, rfl, H, HG⟩ := hrel
      by_cases hlt : k < k0
      · obtain ⟨lb, loff, rfl⟩ := HL.out.at (by omega)
        have hkl : k < ls.length := HLn.out ▸ hlt
        have hrow := HL.out.row k hkl
        have HSh := Lib.hid (HL.out.short _ (List.getElem_mem hkl))
        have HG1 := Lib.hid (Po.goE_at ls M k hkl)
        have HG2 := Lib.hid (Po.goL_at ls M k hkl)
        obtain ⟨x0, hx0⟩ : ∃ x0, ls[k] = x0 := ⟨_, rfl⟩
        rw [hx0] at hrow HSh HG1 HG2
        clear hx0
        have HAc := Lib.hid hrow.1
        have HAm := Lib.hid hrow.2
        have HLt := Lib.hid (cell_lt hrow.1)
        clear hrow
        obtain ⟨c, hc⟩ : ∃ c, x0.acct = c := ⟨_, rfl⟩
        rw [hc] at HG1 HG2 HAc
        have HCs : Hid (c.size ≤ 140737488355328) := Lib.hid (hc ▸ HSh.out.1)
        clear hc
        obtain ⟨hq1, hq2, hq3, hLs⟩ := H.out.len
        have HQ := Lib.hid hq1
        have HLs := Lib.hid hLs
        have hqb : q ≤ 2000 := by have := HG.out.2.2; omega
        clear hq1 hLs
        go_upto_block 2 with fail
        go_cut [8] (fun s wx => s = .int .i64 ((Po.spot c M : Nat) : Int) ∧ Hid (Below wz.heap.size wz wx))
        case first =>
          go_wp2_with fail
          go_loopw [8] (fun i wr => ∃ j : Nat, j ≤ q ∧ i = .int .i64 j ∧ Hid (j + Po.spot c (M.drop j) = Po.spot c M) ∧ Hid (Below wz.heap.size wz wr)) (fun i _ => q - (intOf i).toNat)
          case atStart => exact ⟨0, by omega, rfl, Lib.hid (Nat.zero_add _), Lib.hid (Below.refl _ _)⟩
          case round =>
            rename World => wy
            obtain ⟨j, hj, rfl, HK, HB⟩ := hrel
            have t1 : wy.cell? ⟨lb, loff + k * 2, none⟩ = some (.string c) := by
              rw [(bcell (bchain H.out.bel HB.out)).1 _ _ HLt.out]
              exact HAc.out
            have k1 := cell_regrown t1
            by_cases hjq : j < q
            · obtain ⟨b1, o1, rfl⟩ := HLs.out.at (by omega)
              have hjp : j < M.length := HQ.out ▸ hjq
              have hrow := (HLs.out.row j hjp).below HB.out
              have HSt := Lib.hid (Po.spot_at c M j hjp)
              generalize M[j] = p at *
              obtain ⟨g0, g1⟩ := hrow
              have k0' := cell_regrown g0
              unfold Po.lt at HSt
              cases hqr : Op.bytesLess p.acct.toList c.toList
              · rw [hqr, if_neg (by simp)] at HSt
                have HSp : Hid (Po.spot c M = j) := Lib.hid (by rw [← HK.out, HSt.out]; rfl)
                go_wp2
                refine wp_region_quiet_below (by kernel_rfl) (by kernel_rfl) ?_
                repeat (first | go_big_quiet_step (fail) | quiet_step (fail))
                refine wpQuiet_nil ?_
                intro _ hw'
                obtain ⟨⟨dq, osq⟩, hw''⟩ := hw'
                subst hw''
                have HX := Lib.hid (below_regrown wy dq osq)
                go_wp2
                go_meet
                exact ⟨by rw [HSp.out], Lib.hid (bchain HB.out HX.out)⟩
              · rw [hqr, if_pos rfl] at HSt
                go_wp2
                refine wp_region_quiet_below (by kernel_rfl) (by kernel_rfl) ?_
                repeat (first | go_big_quiet_step (fail) | quiet_step (fail))
                refine wpQuiet_nil ?_
                intro _ hw'
                obtain ⟨⟨dq, osq⟩, hw''⟩ := hw'
                subst hw''
                have HX := Lib.hid (below_regrown wy dq osq)
                go_wp2
                go_roundw
                case rel => exact ⟨j + 1, by omega, by go_num, Lib.hid (by rw [← HK.out, HSt.out]; omega), Lib.hid (bchain HB.out HX.out)⟩
                case measure => simp [intOf]; omega
            · obtain rfl : j = q := by omega
              have HSp : Hid (Po.spot c M = j) := Lib.hid (by rw [← HK.out, List.drop_eq_nil_of_le (Nat.le_of_eq HQ.out.symm)]; rfl)
              go_wp2
              refine wp_region_quiet_below (by kernel_rfl) (by kernel_rfl) ?_
              repeat (first | go_big_quiet_step (fail) | quiet_step (fail))
              refine wpQuiet_nil ?_
              intro _ hw'
              obtain ⟨⟨dq, osq⟩, hw''⟩ := hw'
              subst hw''
              have HX := Lib.hid (below_regrown wy dq osq)
              go_wp2
              go_meet
              exact ⟨by rw [HSp.out], Lib.hid (bchain HB.out HX.out)⟩
        case rest =>
          obtain ⟨rfl, HX⟩ := hcut
          rename World => wq
          have H4 := Lib.hid (H.out.below HX.out)
          have HL4 := Lib.hid (HLs.out.below HX.out)
          have t1 : wq.cell? ⟨lb, loff + k * 2, none⟩ = some (.string c) := by
            rw [(bcell H4.out.bel).1 _ _ HLt.out]
            exact HAc.out
          have HPs := Lib.hid (Po.part_short HCs.out H4.out.sh)
          have HIs := Lib.hid (Po.ins_short HCs.out H4.out.sh)
          have HIn := Lib.hid (Po.ins_at (c := c) M)
          have HIl := Lib.hid (Po.ins_lt (c := c) M)
          have HSq : Hid (Po.spot c M ≤ q) := Lib.hid (by rw [HQ.out]; exact Po.spot_le c M)
          have HHas := Lib.hid (Po.has_spot c M)
          have HNew : Hid (Po.has c M = false → Po.ins c M = M.take (Po.spot c M) ++ ⟨c, 0⟩ :: M.drop (Po.spot c M)) := Lib.hid Po.ins_new
          obtain ⟨p, hp⟩ : ∃ p, Po.part c M = p := ⟨_, rfl⟩
          have HPp := Lib.hid hp
          rw [hp] at HPs HIn
          clear hp HX H HLs
          obtain ⟨s, hs⟩ : ∃ s, Po.spot c M = s := ⟨_, rfl⟩
          have HSs := Lib.hid hs
          rw [hs] at HIn HIl HSq HHas HNew
          rw [hs]
          clear hs
          have k1 := cell_regrown t1
          have hsq0 := HSq.out
          go_wp2_with fail
          go_cut [58] (fun f wx => f = .bool (!(Po.has c M)) ∧ Hid (Below wq.heap.size wq wx))
          case first =>
            by_cases hsq : s < q
            · obtain ⟨b1, o1, rfl⟩ := HL4.out.at (by omega)
              have hsp : s < M.length := HQ.out ▸ hsq
              have hrow := HL4.out.row s hsp
              have HHs : Hid (Po.has c M = decide (M[s].acct = c)) := Lib.hid (by rw [HHas.out, List.getElem?_eq_getElem hsp])
              generalize M[s] = pp at *
              obtain ⟨g0, g1⟩ := hrow
              have k0' := cell_regrown g0
              have hq5 : ((s : Int) == (q : Int)) = false := beq_eq_false_iff_ne.2 (by omega)
              by_cases hcc : pp.acct = c
              · have qe : (pp.acct.toList == c.toList) = true := beq_iff_eq.2 (by rw [hcc])
                have HHt : Hid (Po.has c M = true) := Lib.hid (by rw [HHs.out]; exact decide_eq_true hcc)
                clear hcc
                go_wp2
                refine wp_region_quiet_below (by kernel_rfl) (by kernel_rfl) ?_
                repeat (first | go_big_quiet_step (fail) | quiet_step (fail))
                refine wpQuiet_nil ?_
                intro _ hw'
                obtain ⟨⟨dq, osq⟩, hw''⟩ := hw'
                subst hw''
                have HX := Lib.hid (below_regrown wq dq osq)
                go_wp2
                go_meet
                exact ⟨by rw [HHt.out]; rfl, HX⟩
              · have qe : (pp.acct.toList == c.toList) = false := beq_eq_false_iff_ne.2 fun e => hcc (Vt.cat_ext e)
                have HHt : Hid (Po.has c M = false) := Lib.hid (by rw [HHs.out]; exact decide_eq_false hcc)
                clear hcc
                go_wp2
                refine wp_region_quiet_below (by kernel_rfl) (by kernel_rfl) ?_
                repeat (first | go_big_quiet_step (fail) | quiet_step (fail))
                refine wpQuiet_nil ?_
                intro _ hw'
                obtain ⟨⟨dq, osq⟩, hw''⟩ := hw'
                subst hw''
                have HX := Lib.hid (below_regrown wq dq osq)
                go_wp2
                go_meet
                exact ⟨by rw [HHt.out]; rfl, HX⟩
            · obtain rfl : s = q := by omega
              have HHt : Hid (Po.has c M = false) := Lib.hid (by rw [HHas.out, List.getElem?_eq_none (by rw [← HQ.out]; exact Nat.le_refl _)])
              have hq5 : ((s : Int) == (s : Int)) = true := beq_self_eq_true _
              go_wp2
              refine wp_region_quiet_below (by kernel_rfl) (by kernel_rfl) ?_
              repeat (first | go_big_quiet_step (fail) | quiet_step (fail))
              refine wpQuiet_nil ?_
              intro _ hw'
              obtain ⟨⟨dq, osq⟩, hw''⟩ := hw'
              subst hw''
              have HX := Lib.hid (below_regrown wq dq osq)
              go_wp2
              go_meet
              exact ⟨by rw [HHt.out]; rfl, HX⟩
          case rest =>
            obtain ⟨rfl, HX2⟩ := hcut
            have H5 := Lib.hid (H4.out.below HX2.out)
            have HL5 := Lib.hid (HL4.out.below HX2.out)
            clear t1 k1 H4 HL4 HX2
            cases hh : Po.has c M
            · have HI := Lib.hid (HNew.out hh)
              clear hh
              rename World => x
              obtain ⟨hs1, hR1⟩ := HL5.out.to s hsq0
              obtain ⟨ao2, cap2, hs2, hR2⟩ := HL5.out.from s hsq0
              obtain ⟨j, hj⟩ : ∃ j, q - s = j := ⟨_, rfl⟩
              rw [hj] at hs2 hR2
              have HR1 := Lib.hid hR1
              have HR2 := Lib.hid hR2
              have hjb : j ≤ 2000 := by omega
              have HB5 := Lib.hid H5.out.bel
              clear hR1 hR2 hj
              go_wp2_with fail
              go_cut [6] (fun t wv => ∃ (uo : Option Addr) (q2 uc : Nat), t = .slice uo q2 uc ∧ Hid (ESt w wv uo q2 uc (Po.ins c M)))
              case first =>
                have t1 : x.cell? ⟨lb, loff + k * 2, none⟩ = some (.string c) := by
                  rw [(bcell H5.out.bel).1 _ _ HLt.out]
                  exact HAc.out
                have lx : ∀ u, Below x.heap.size x u → Below x.heap.size x u ∧ u.cell? ⟨lb, loff + k * 2, none⟩ = some (.string c) := fun u h => ⟨h, by rw [(bcell h).1 _ _ (cell_lt t1)]; exact t1⟩
                go_region_held3 (fun u => Below x.heap.size x u ∧ u.cell? ⟨lb, loff + k * 2, none⟩ = some (.string c)) (first | with_reducible assumption | (apply lx; repeat (first | with_reducible assumption | with_reducible apply below_box | with_reducible apply Below.drew | with_reducible exact Below.refl _ _)) | fail) (first | (refine Ba.step_append y2 x b2 (by rfl) (.tmp 71) (.tmp 74) (by rfl) v2 ([] ++ M.take s ++ [⟨c, 0⟩]) (by rfl) o2 ao2 j cap2 (M.drop s) (by rfl) HR2.out.len HR2.out.nil (HR2.out.seg.below b2) (by simp; omega) ?_; intro v3 y3 o3 gr3 b3; have s3 := lx _ b3) | (refine Ba.step_append (y1.alloc (.cells #[.string c, .int .i64 0] 33)) x (below_box b1 _) (by rfl) (.tmp 63) (.tmp 70) (by rfl) v1 ([] ++ M.take s) (by rfl) (Ba.own_alloc o1 _) (some ⟨y1.heap.size, 0, none⟩) 1 1 [⟨c, 0⟩] (by rfl) rfl (fun h => by cases h) (Ba.seg_block (heap_alloc_new y1 _)) (by simp; omega) ?_; intro v2 y2 o2 gr2 b2; have s2 := lx _ b2) | (refine Ba.step_append y1 x b1 (by rfl) (.tmp 63) (.tmp 70) (by rfl) v1 ([] ++ M.take s) (by rfl) o1 (some ⟨_, 0, none⟩) 1 1 [⟨c, 0⟩] (by rfl) rfl (fun h => by cases h) (Ba.seg_block F) (by simp; omega) ?_; intro v2 y2 o2 gr2 b2; have s2 := lx _ b2) | (refine Ba.step_append (x.alloc (.cells #[] 33)).drew x (And.left (by assumption)) (by rfl) (.tmp 59) (.tmp 62) (by rfl) (.slice (some ⟨x.heap.size, 0, none⟩) 0 0) [] (by rfl) (Ba.own_empty (Nat.le_refl _) (heap_alloc_new x _)) vo s vc (M.take s) (by rfl) HR1.out.len HR1.out.nil (HR1.out.seg.below (And.left (by assumption))) (by simp; omega) ?_; intro v1 y1 o1 gr1 b1; have s1 := lx _ b1) | (refine Ba.step_append ((x.alloc (.cells #[] 33)).alloc (.cells #[.string c, .int .i64 0] 33)).drew x (And.left (by assumption)) (by rfl) (.tmp 59) (.tmp 62) (by rfl) (.slice (some ⟨x.heap.size, 0, none⟩) 0 0) [] (by rfl) (Ba.own_empty (Nat.le_refl _) (heap_old (heap_alloc_new x _))) vo s vc (M.take s) (by rfl) HR1.out.len HR1.out.nil (HR1.out.seg.below (And.left (by assumption))) (by simp; omega) ?_; intro v1 y1 o1 gr1 b1; have s1 := lx _ b1; have F : y1.heap[x.heap.size + 1]? = some (Ba.block ⟨c, 0⟩) := blk_keep gr1 (heap_next x _ _) (by simp [Value.ownBlock])) | (refine Ba.step_append ((x.alloc (.cells #[.string c, .int .i64 0] 33)).alloc (.cells #[] 33)).drew x (And.left (by assumption)) (by rfl) (.tmp 59) (.tmp 62) (by rfl) (.slice (some ⟨x.heap.size + 1, 0, none⟩) 0 0) [] (by rfl) (Ba.own_empty (Nat.le_succ _) (heap_next x _ _)) vo s vc (M.take s) (by rfl) HR1.out.len HR1.out.nil (HR1.out.seg.below (And.left (by assumption))) (by simp; omega) ?_; intro v1 y1 o1 gr1 b1; have s1 := lx _ b1; have F : y1.heap[x.heap.size]? = some (Ba.block ⟨c, 0⟩) := blk_keep gr1 (heap_old (heap_alloc_new x _)) (by simp [Value.ownBlock])) | fail)
                all_goals (try go_wp2_with fail)
                all_goals go_meet
                all_goals (
                  obtain ⟨uo, uc, e3, hU, _⟩ := Ba.own_ls o3 (by
                    intro r hr
                    apply HIs.out
                    rw [HI.out]
                    simpa using hr)
                  subst e3
                  exact ⟨uo, _, uc, rfl, Lib.hid ⟨bchain HB5.out b3, Ba.own_mono (by rw [HI.out, show M.take s ++ (⟨c, 0⟩ : Ba.T) :: M.drop s = [] ++ M.take s ++ [⟨c, 0⟩] ++ M.drop s from by simp]; exact o3) HB5.out.size, HIs.out⟩⟩)
              case rest =>
                obtain ⟨uo, q2, uc, rfl, H6⟩ := hcut
                clear H5 HL5 HR1 HR2 hs1 hs2 HB5
                rename World => wc
                have HQ6 := Lib.hid H6.out.len.1
                obtain ⟨b1, hvb, hb1, hAt, hfz⟩ := H6.out.at s HIl.out
                have hps : (Po.ins c M)[s]'(HIl.out) = p := Option.some.inj ((List.getElem?_eq_getElem _).symm.trans HIn.out)
                rw [hps] at hAt
                have HPs6 := Lib.hid hps
                subst hvb
                obtain ⟨r0, r1⟩ := hAt
                have g1' : wc.cell? ⟨lb, loff + k * 2 + 1, none⟩ = some (.int .i64 x0.amt) := by
                  rw [(bcell H6.out.bel).1 _ _ HLt.out]
                  exact HAm.out
                have k1 := cell_regrown r1
                have l1 := cell_regrown g1'
                have hl1 := H6.out.len.2.1
                have hl2 := H6.out.len.2.2.1
                have hsq : s < q2 := by have h1 := HIl.out; rw [← HQ6.out] at h1; exact h1
                obtain ⟨E, hE⟩ : ∃ E, Mn.err (p.amt + x0.amt) = E := ⟨_, rfl⟩
                obtain ⟨X, hX⟩ : ∃ X, Mn.amt (p.amt + x0.amt) = X := ⟨_, rfl⟩
                have c1 : ∀ i os, Calls Try.prog 28 #[.int .i64 p.amt, .int .i64 x0.amt] (grow (redrawn wc i) os) fun e w'' => e = .returned (.tuple #[.int .i64 X, .int .i64 E]) ∧ ∃ q : Regrown, w'' = grow (redrawn wc q.d) q.os := fun i os => Calls.regrown_of ((refAdd_any p.amt x0.amt _ HPs.out.2 HSh.out.2).mono fun e w'' ⟨h1, h2⟩ => ⟨by rw [h1, hE, hX]; rfl, h2 ▸ Below.refl _ _⟩)
                have HEx := Lib.hid (And.intro hE hX)
                clear hE hX hps
                go_wp2
                refine wp_region_quiet_below (by kernel_rfl) (by kernel_rfl) ?_
                repeat (first | go_big_quiet_step (first | (go_at_call 28; exact c1 _ _)) | quiet_step (first | (go_at_call 28; exact c1 _ _)))
                refine wpQuiet_nil ?_
                intro _ hw'
                obtain ⟨⟨dq, osq⟩, hw''⟩ := hw'
                subst hw''
                have H7 := Lib.hid (H6.out.below (below_regrown wc dq osq))
                clear k1 l1 c1 r0 r1 g1' hfz H6
                generalize grow (redrawn wc dq) osq = wx at *
                rcases Mn.err_two (p.amt + x0.amt) with e1 | e1
                · have hE0 : E = 0 := HEx.out.1.symm.trans e1
                  have hX0 : X = p.amt + x0.amt := HEx.out.2.symm.trans (Mn.amt_fit (Iv_err_0 e1))
                  subst hE0 hX0
                  have HE0 : Hid (Po.enterE c x0.amt M = 0) := Lib.hid (by unfold Po.enterE; rw [HPp.out]; exact e1)
                  rw [HE0.out, if_neg (by simp)] at HG1
                  have HFx := Lib.hid (Iv_err_0 e1)
                  have HPut : Hid (ESt w (wx.setCell ⟨b1, s * 2 + 1, none⟩ (.int .i64 (p.amt + x0.amt))) (some ⟨b1, 0, none⟩) q2 uc (Po.enter c x0.amt M)) := Lib.hid (by
                    have h := H7.out.put rfl hb1 s 1 HIl.out (by omega) (.int .i64 (p.amt + x0.amt)) ⟨p.acct, p.amt + x0.amt⟩ (by rw [HPs6.out]; rfl) ⟨HPs.out.1, HFx.out⟩
                    unfold Po.enter Po.more
                    rw [HSs.out, HPp.out]
                    exact h)
                  obtain ⟨b2, hb2, _, hAt, hfz⟩ := H7.out.at s HIl.out
                  cases hb2
                  rw [HPs6.out] at hAt
                  obtain ⟨r0, r1⟩ := hAt
                  have f1 := hfz (s * 2 + 1)
                  have HQn : Hid (q2 ≤ n + (k + 1)) := Lib.hid (by have h1 := HQ6.out; have h2 := Po.ins_len (c := c) M; have h3 := HQ.out; have h4 := HG.out.2.2; omega)
                  clear e1 hfz
                  go_wp2_with fail
                  go_roundw
                  case rel => exact ⟨k + 1, some ⟨b1, 0, none⟩, q2, uc, Po.enter c x0.amt M, by omega, by go_num, rfl, HPut, Lib.hid ⟨by rw [← HG1.out]; exact HG.out.1, by rw [← HG2.out]; exact HG.out.2.1, HQn.out⟩⟩
                  case measure => simp [intOf]; omega
                · have hE0 : E = 7 := HEx.out.1.symm.trans e1
                  subst hE0
                  have HE7 : Hid (Po.enterE c x0.amt M = 7) := Lib.hid (by unfold Po.enterE; rw [HPp.out]; exact e1)
                  have HP : Hid (Po.entE bs ls = 7 ∧ Po.entL bs ls = []) := Lib.hid (by
                    have h : Po.entE bs ls = 7 := by
                      rw [HT.out, ← HG.out.1, HG1.out, HE7.out]
                      rfl
                    exact ⟨h, by unfold Po.entL; rw [h]; rfl⟩)
                  have HBf := Lib.hid H7.out.bel
                  clear e1
                  go_wp2_with fail
                  go_ret2
                  exact ⟨_, by rw [HP.out.1]; rfl, by rw [HP.out.2]; exact Ba.own_nil _ _, HBf.out⟩
            · have HI := Lib.hid (Po.ins_has hh)
              clear hh
              rw [← HI.out] at H5
              have H6 := H5
              clear H5 HL5
              rename World => wc
              have HQ6 := Lib.hid H6.out.len.1
              obtain ⟨b1, hvb, hb1, hAt, hfz⟩ := H6.out.at s HIl.out
              have hps : (Po.ins c M)[s]'(HIl.out) = p := Option.some.inj ((List.getElem?_eq_getElem _).symm.trans HIn.out)
              rw [hps] at hAt
              have HPs6 := Lib.hid hps
              subst hvb
              obtain ⟨r0, r1⟩ := hAt
              have g1' : wc.cell? ⟨lb, loff + k * 2 + 1, none⟩ = some (.int .i64 x0.amt) := by
                rw [(bcell H6.out.bel).1 _ _ HLt.out]
                exact HAm.out
              have k1 := cell_regrown r1
              have l1 := cell_regrown g1'
              have hl1 := H6.out.len.2.1
              have hl2 := H6.out.len.2.2.1
              have hsq : s < q := by have h1 := HIl.out; rw [← HQ6.out] at h1; exact h1
              obtain ⟨E, hE⟩ : ∃ E, Mn.err (p.amt + x0.amt) = E := ⟨_, rfl⟩
              obtain ⟨X, hX⟩ : ∃ X, Mn.amt (p.amt + x0.amt) = X := ⟨_, rfl⟩
              have c1 : ∀ i os, Calls Try.prog 28 #[.int .i64 p.amt, .int .i64 x0.amt] (grow (redrawn wc i) os) fun e w'' => e = .returned (.tuple #[.int .i64 X, .int .i64 E]) ∧ ∃ q : Regrown, w'' = grow (redrawn wc q.d) q.os := fun i os => Calls.regrown_of ((refAdd_any p.amt x0.amt _ HPs.out.2 HSh.out.2).mono fun e w'' ⟨h1, h2⟩ => ⟨by rw [h1, hE, hX]; rfl, h2 ▸ Below.refl _ _⟩)
              have HEx := Lib.hid (And.intro hE hX)
              clear hE hX hps
              go_wp2
              refine wp_region_quiet_below (by kernel_rfl) (by kernel_rfl) ?_
              repeat (first | go_big_quiet_step (first | (go_at_call 28; exact c1 _ _)) | quiet_step (first | (go_at_call 28; exact c1 _ _)))
              refine wpQuiet_nil ?_
              intro _ hw'
              obtain ⟨⟨dq, osq⟩, hw''⟩ := hw'
              subst hw''
              have H7 := Lib.hid (H6.out.below (below_regrown wc dq osq))
              clear k1 l1 c1 r0 r1 g1' hfz H6
              generalize grow (redrawn wc dq) osq = wx at *
              rcases Mn.err_two (p.amt + x0.amt) with e1 | e1
              · have hE0 : E = 0 := HEx.out.1.symm.trans e1
                have hX0 : X = p.amt + x0.amt := HEx.out.2.symm.trans (Mn.amt_fit (Iv_err_0 e1))
                subst hE0 hX0
                have HE0 : Hid (Po.enterE c x0.amt M = 0) := Lib.hid (by unfold Po.enterE; rw [HPp.out]; exact e1)
                rw [HE0.out, if_neg (by simp)] at HG1
                have HFx := Lib.hid (Iv_err_0 e1)
                have HPut : Hid (ESt w (wx.setCell ⟨b1, s * 2 + 1, none⟩ (.int .i64 (p.amt + x0.amt))) (some ⟨b1, 0, none⟩) q vc (Po.enter c x0.amt M)) := Lib.hid (by
                  have h := H7.out.put rfl hb1 s 1 HIl.out (by omega) (.int .i64 (p.amt + x0.amt)) ⟨p.acct, p.amt + x0.amt⟩ (by rw [HPs6.out]; rfl) ⟨HPs.out.1, HFx.out⟩
                  unfold Po.enter Po.more
                  rw [HSs.out, HPp.out]
                  exact h)
                obtain ⟨b2, hb2, _, hAt, hfz⟩ := H7.out.at s HIl.out
                cases hb2
                rw [HPs6.out] at hAt
                obtain ⟨r0, r1⟩ := hAt
                have f1 := hfz (s * 2 + 1)
                have HQn : Hid (q ≤ n + (k + 1)) := Lib.hid (by have h1 := HQ6.out; have h2 := Po.ins_len (c := c) M; have h3 := HQ.out; have h4 := HG.out.2.2; omega)
                clear e1 hfz
                go_wp2_with fail
                go_roundw
                case rel => exact ⟨k + 1, some ⟨b1, 0, none⟩, q, vc, Po.enter c x0.amt M, by omega, by go_num, rfl, HPut, Lib.hid ⟨by rw [← HG1.out]; exact HG.out.1, by rw [← HG2.out]; exact HG.out.2.1, HQn.out⟩⟩
                case measure => simp [intOf]; omega
              · have hE0 : E = 7 := HEx.out.1.symm.trans e1
                subst hE0
                have HE7 : Hid (Po.enterE c x0.amt M = 7) := Lib.hid (by unfold Po.enterE; rw [HPp.out]; exact e1)
                have HP : Hid (Po.entE bs ls = 7 ∧ Po.entL bs ls = []) := Lib.hid (by
                  have h : Po.entE bs ls = 7 := by
                    rw [HT.out, ← HG.out.1, HG1.out, HE7.out]
                    rfl
                  exact ⟨h, by unfold Po.entL; rw [h]; rfl⟩)
                have HBf := Lib.hid H7.out.bel
                clear e1
                go_wp2_with fail
                go_ret2
                exact ⟨_, by rw [HP.out.1]; rfl, by rw [HP.out.2]; exact Ba.own_nil _ _, HBf.out⟩
      · obtain rfl : k = k0 := by omega
        have HP : Hid (Po.entE bs ls = 0 ∧ Po.entL bs ls = M) := Lib.hid (by
          have h := HG.out
          rw [List.drop_eq_nil_of_le (Nat.le_of_eq HLn.out.symm)] at h
          have h1 : Po.entE bs ls = 0 := by rw [HT.out, ← h.1]; rfl
          exact ⟨h1, by unfold Po.entL; rw [h1, if_pos rfl, ← h.2.1]; rfl⟩)
        go_wp2_with fail
        go_ret2
        exact ⟨.slice vo q vc, by rw [HP.out.1]; rfl, by rw [HP.out.2]; exact H.out.own, H.out.bel⟩
end Go.Proofs.Ytgnepgkmjgpkeaa
