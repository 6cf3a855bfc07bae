/- CONTRACTS OF PACKAGE post: Enter. -/
import Derived.Test.YtgnepgkmjgpkeaaPoN
import Derived.Test.YtgnepgkmjgpkeaaRfEn
import Derived.Test.YtgnepgkmjgpkeaaMoneyN
set_option maxRecDepth 100000
set_option linter.unusedVariables false
namespace Go.Proofs.Ytgnepgkmjgpkeaa
open Go.RowKit
open Mem
open Go.Sort (grow)

theorem Po.enter_set {c : ByteArray} {n : Int} {M : List Ba.T} (h : Po.has c M = true) : ∃ hs : Po.spot c M < M.length, M[Po.spot c M] = Po.part c M ∧ Po.enter c n M = M.set (Po.spot c M) (Po.more (Po.part c M) n) := by
  have h1 := Po.ins_at (c := c) M
  have h2 := Po.ins_lt (c := c) M
  rw [Po.ins_has h] at h1 h2
  refine ⟨h2, ?_, by unfold Po.enter; rw [Po.ins_has h]⟩
  rw [List.getElem?_eq_getElem h2] at h1
  exact Option.some.inj h1
/-- the book on the way: all accounts are there, and have what the rows that were entered make of them -/
structure Way (bs ls M b : List Ba.T) (k : Nat) : Prop where
  sorted : Po.Sorted M
  has : ∀ c, Po.has c M = (Po.has c bs || Po.named c ls)
  val : ∀ c, Po.val c M = Po.val c b
  right : Po.Sorted b
  goE : Po.goE (ls.drop k) b = Po.goE ls bs
  goL : Po.goL (ls.drop k) b = Po.goL ls bs
theorem Way.start {bs ls M : List Ba.T} (h : Po.Opened bs ls M) (hS : Po.Sorted bs) : Way bs ls M bs 0 := ⟨h.sorted, h.has, h.val, hS, rfl, rfl⟩
theorem named_at {ls : List Ba.T} {k : Nat} (hk : k < ls.length) : Po.named ls[k].acct ls = true := List.any_eq_true.2 ⟨_, List.getElem_mem hk, decide_eq_true rfl⟩
theorem Way.there {bs ls M b : List Ba.T} {k : Nat} (h : Way bs ls M b k) (hk : k < ls.length) : Po.has ls[k].acct M = true := by
  rw [h.has, named_at hk, Bool.or_true]
theorem Way.err {bs ls M b : List Ba.T} {k : Nat} (h : Way bs ls M b k) (hk : k < ls.length) : Mn.err ((Po.part ls[k].acct M).amt + ls[k].amt) = Po.enterE ls[k].acct ls[k].amt b := by
  have := h.val ls[k].acct
  unfold Po.val at this
  unfold Po.enterE
  rw [this]
theorem Way.step {bs ls M b : List Ba.T} {k : Nat} (h : Way bs ls M b k) (hk : k < ls.length) (he : Po.enterE ls[k].acct ls[k].amt b = 0) : Way bs ls (Po.enter ls[k].acct ls[k].amt M) (Po.enter ls[k].acct ls[k].amt b) (k + 1) := by
  refine ⟨Po.enter_sorted h.sorted, fun c => ?_, fun c => ?_, Po.enter_sorted h.right, ?_, ?_⟩
  · have h1 := Po.val_enter c ls[k].acct ls[k].amt M
    rw [h1.2, h.has]
    by_cases e : ls[k].acct = c
    · rw [← e, named_at hk]
      simp
    · rw [decide_eq_false e, Bool.or_false]
  · have h1 := Po.val_enter c ls[k].acct ls[k].amt M
    have h2 := Po.val_enter c ls[k].acct ls[k].amt b
    rw [h1.1, h2.1, h.val]
  · have := Po.goE_at ls b k hk
    rw [he, if_neg (by simp)] at this
    rw [← this]
    exact h.goE
  · rw [← Po.goL_at ls b k hk]
    exact h.goL
theorem Way.done {bs ls M b : List Ba.T} {k : Nat} (h : Way bs ls M b k) (hk : k = ls.length) : M = Po.goL ls bs ∧ Po.goE ls bs = 0 := by
  have h1 := h.goL
  have h2 := h.goE
  rw [List.drop_eq_nil_of_le (Nat.le_of_eq hk.symm)] at h1 h2
  have e1 : b = Po.goL ls bs := h1
  refine ⟨?_, h2.symm⟩
  rw [← e1]
  refine Po.ext_val h.sorted h.right fun c => ⟨?_, h.val c⟩
  rw [h.has, e1, (Po.val_goL c ls bs).2]
theorem Way.stop {bs ls M b : List Ba.T} {k : Nat} (h : Way bs ls M b k) (hk : k < ls.length) (he : Po.enterE ls[k].acct ls[k].amt b = 7) : Po.goE ls bs = 7 := by
  rw [← h.goE, Po.goE_at ls b k hk, he]
  rfl
set_option maxHeartbeats 8000000 in
theorem post_enter (bs ls : List Ba.T) (ao bo : Option Addr) (n ca k0 cb : Nat) (w : World) (hB : Ba.Ls w ao n ca bs) (hL : Ba.Ls w bo k0 cb ls) (hn : n ≤ 1000) (hk0 : k0 ≤ 1000) :
    Calls Try.prog 9 #[.slice ao n ca, .slice bo k0 cb] w (EnterE w bs ls) := by
  have HBs := Lib.hid hB
  have HL := Lib.hid hL
  have HN := Lib.hid hB.len
  have HLn := Lib.hid hL.len
  have hca := hB.reach
  have hna := hB.fits
  have hcb := hL.reach
  have hfb := hL.fits
  clear hB hL
  go_enter Try.func9, Try.ntmps9
  go_wp2_with fail
  refine (post_right bs ao n ca w _ (Below.refl _ _) HBs.out).mono ?_
  rintro e w1 ⟨rfl, b1⟩
  have HB1 := Lib.hid b1
  clear b1
  cases hT : Po.rightB bs
  · have HP := Lib.hid (Po.ent_arg (l := ls) hT)
    clear hT
    go_wp2_with fail
    go_ret2
    exact ⟨_, by rw [HP.out.1]; rfl, by rw [HP.out.2]; exact Ba.own_nil _ _, HB1.out⟩
  · have HT := Lib.hid (Po.ent_go (l := ls) hT)
    have HS := Lib.hid ((Po.right_iff bs).1 hT)
    clear hT
    go_wp2_with fail
    refine (post_opened bs ls ao bo n ca k0 cb w1 (HBs.out.below HB1.out) (HL.out.below HB1.out) HS.out hn hk0).mono ?_
    rintro e w2 ⟨v, M0, rfl, o2, hop, hsh, hlen, b2⟩
    have HW0 := Lib.hid (Way.start hop HS.out)
    obtain ⟨va, vc0, hv1, hV, _⟩ := Ba.own_ls o2 hsh
    subst hv1
    have HE0 : Hid (ESt w w2 va M0.length vc0 M0) := Lib.hid ⟨bchain HB1.out b2, Ba.own_mono o2 HB1.out.size, hsh⟩
    have HLe := Lib.hid hlen
    clear o2 hop hsh hV b2 hlen HB1
    obtain ⟨q0, hq0⟩ : ∃ q0, M0.length = q0 := ⟨_, rfl⟩
    rw [hq0] at HE0 HLe
    rw [hq0]
    clear hq0
    go_wp2_with fail
    go_loopw [8, 9, 10, 11, 20] (fun _ _ _ _ i wr => ∃ (k : Nat) (M b : List Ba.T), k ≤ k0 ∧ i = .int .i64 k ∧ Hid (ESt w wr va q0 vc0 M) ∧ Hid (Way bs ls M b k)) (fun _ _ _ _ i _ => k0 - (intOf i).toNat)
    case atStart => exact ⟨0, M0, bs, by omega, rfl, HE0, HW0⟩
    case round =>
      clear HE0 HW0
      rename World => wz
      obtain ⟨k, M, b, hk, rfl, H, HG⟩ := hrel
      by_cases hlt : k < k0
      · obtain ⟨lb, loff, rfl⟩ := HL.out.at (by omega)
        have hkl : k < ls.length := HLn.out ▸ hlt
        have hrow := (HL.out.row k hkl).below H.out.bel
        have HSh := Lib.hid (HL.out.short _ (List.getElem_mem hkl))
        have HTh := Lib.hid (HG.out.there hkl)
        have HEr := Lib.hid (HG.out.err hkl)
        have HStep : Hid (Po.enterE ls[k].acct ls[k].amt b = 0 → Way bs ls (Po.enter ls[k].acct ls[k].amt M) (Po.enter ls[k].acct ls[k].amt b) (k + 1)) := Lib.hid (HG.out.step hkl)
        have HStop : Hid (Po.enterE ls[k].acct ls[k].amt b = 7 → Po.goE ls bs = 7) := Lib.hid (HG.out.stop hkl)
        obtain ⟨x, hx⟩ : ∃ x, ls[k] = x := ⟨_, rfl⟩
        rw [hx] at hrow HSh HTh HEr HStep HStop
        clear hx
        obtain ⟨hsl, hps, hent⟩ := Po.enter_set (n := x.amt) HTh.out
        obtain ⟨r0, r1⟩ := hrow
        obtain ⟨W, hW, hbW, hA⟩ := Ba.boxed1 wz x
        have H1 := Lib.hid (H.out.below hbW)
        unfold Ba.C at hA
        obtain ⟨a0, a1⟩ := hA
        clear hbW H
        obtain ⟨hq1, hq2, hq3, hLs⟩ := H1.out.len
        obtain ⟨g, hvb, hgb, hAt, hfz⟩ := H1.out.at (Po.spot x.acct M) hsl
        rw [hps] at hAt
        subst hvb
        have HPl := Lib.hid (post_place M x.acct _ q0 vc0 W hLs HG.out.sorted)
        have HSl := Lib.hid hsl
        have HPs : Hid (M[Po.spot x.acct M]? = some (Po.part x.acct M)) := Lib.hid (by rw [List.getElem?_eq_getElem hsl, hps])
        have HEn := Lib.hid hent
        have hsq : Po.spot x.acct M < q0 := hq1 ▸ hsl
        obtain ⟨s, hs⟩ : ∃ s, Po.spot x.acct M = s := ⟨_, rfl⟩
        have HPh := Lib.hid (H1.out.sh _ (List.getElem_mem hsl))
        rw [hps] at HPh
        obtain ⟨p, hp⟩ : ∃ p, Po.part x.acct M = p := ⟨_, rfl⟩
        rw [hp] at HPh hAt HEr HEn HPs
        rw [hs] at HPl hAt HEn hsq HSl HPs
        clear hps hent hsl hLs hq1 hs hp
        obtain ⟨d0, d1⟩ := hAt
        have f1 := hfz (s * 2 + 1)
        have k1 := cell_regrown d1
        have l1 := cell_regrown a1
        obtain ⟨E, hE⟩ : ∃ E, Mn.err (p.amt + x.amt) = E := ⟨_, rfl⟩
        obtain ⟨X, hX⟩ : ∃ X, Mn.amt (p.amt + x.amt) = X := ⟨_, rfl⟩
        have c1 : ∀ i os, Calls Try.prog 25 #[.int .i64 p.amt, .int .i64 x.amt] (grow (redrawn W i) os) fun e w'' => e = .returned (.tuple #[.int .i64 X, .int .i64 E]) ∧ ∃ q : Regrown, w'' = grow (redrawn W q.d) q.os := fun i os => Calls.regrown_of ((add_any p.amt x.amt _ HPh.out.2 HSh.out.2).mono fun e w'' ⟨h1, h2⟩ => ⟨by rw [h1, hE, hX]; rfl, h2 ▸ Below.refl _ _⟩)
        have HEx := Lib.hid (And.intro hE hX)
        clear hE hX hfz
        go_wp2_with fail
        refine HPl.out.mono ?_
        rintro e w3 ⟨rfl, hw3⟩
        have hw4 := hw3.symm
        clear hw3
        subst hw4
        clear hW HPl
        go_wp2_with fail
        refine wp_region_quiet_below (by kernel_rfl) (by kernel_rfl) ?_
        repeat (first | go_big_quiet_step (first | (go_at_call 25; exact c1 _ _)) | quiet_step (first | (go_at_call 25; exact c1 _ _)))
        refine wpQuiet_nil ?_
        intro _ hw'
        obtain ⟨⟨dq, osq⟩, hw''⟩ := hw'
        subst hw''
        have H7 := Lib.hid (H1.out.below (below_regrown W dq osq))
        clear k1 l1 c1 d0 d1 a0 a1 r0 r1 f1 H1
        generalize grow (redrawn W dq) osq = wx at *
        rcases Mn.err_two (p.amt + x.amt) with e1 | e1
        · have hE0 : E = 0 := HEx.out.1.symm.trans e1
          have hX0 : X = p.amt + x.amt := HEx.out.2.symm.trans (Mn.amt_fit (Iv_err_0 e1))
          subst hE0 hX0
          have HE0 := Lib.hid (HStep.out (HEr.out.symm.trans e1))
          have HFx := Lib.hid (Iv_err_0 e1)
          obtain ⟨b2, hb2, _, hAt, hfz⟩ := H7.out.at s HSl.out
          cases hb2
          have hps2 : M[s]'HSl.out = p := by
            have h := HPs.out
            rw [List.getElem?_eq_getElem HSl.out] at h
            exact Option.some.inj h
          have HPut : Hid (ESt w (wx.setCell ⟨g, s * 2 + 1, none⟩ (.int .i64 (p.amt + x.amt))) (some ⟨g, 0, none⟩) q0 vc0 (Po.enter x.acct x.amt M)) := Lib.hid (by
            have h := H7.out.put rfl hgb s 1 HSl.out (by omega) (.int .i64 (p.amt + x.amt)) ⟨p.acct, p.amt + x.amt⟩ (by rw [hps2]; rfl) ⟨HPh.out.1, HFx.out⟩
            rw [HEn.out]
            exact h)
          rw [hps2] at hAt
          obtain ⟨r0, r1⟩ := hAt
          have f1 := hfz (s * 2 + 1)
          clear e1 hfz hps2
          go_wp2_with fail
          go_roundw
          case rel => exact ⟨k + 1, Po.enter x.acct x.amt M, Po.enter x.acct x.amt b, by omega, by go_num, HPut, HE0⟩
          case measure => simp [intOf]; omega
        · have hE0 : E = 7 := HEx.out.1.symm.trans e1
          subst hE0
          have HE7 := Lib.hid (HStop.out (HEr.out.symm.trans e1))
          have HP : Hid (Po.entE bs ls = 7 ∧ Po.entL bs ls = []) := Lib.hid (by
            have h : Po.entE bs ls = 7 := by rw [HT.out, HE7.out]
            exact ⟨h, by unfold Po.entL; rw [h]; rfl⟩)
          have HBf := Lib.hid H7.out.bel
          clear e1
          go_wp2_with fail
          go_ret2
          exact ⟨_, by rw [HP.out.1]; rfl, by rw [HP.out.2]; exact Ba.own_nil _ _, HBf.out⟩
      · obtain rfl : k = k0 := by omega
        have HD := Lib.hid (HG.out.done HLn.out)
        have HP : Hid (Po.entE bs ls = 0 ∧ Po.entL bs ls = M) := Lib.hid (by
          have h : Po.entE bs ls = 0 := by rw [HT.out, HD.out.2]
          exact ⟨h, by unfold Po.entL; rw [h, HD.out.1]; rfl⟩)
        have HO := Lib.hid H.out.own
        have HBf := Lib.hid H.out.bel
        go_wp2_with fail
        go_ret2
        exact ⟨_, by rw [HP.out.1]; rfl, by rw [HP.out.2]; exact HO.out, HBf.out⟩
end Go.Proofs.Ytgnepgkmjgpkeaa
