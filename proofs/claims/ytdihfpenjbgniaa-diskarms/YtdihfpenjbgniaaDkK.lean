/- R2: DiskKept walked. -/
import Derived.Test.YtdihfpenjbgniaaDkH
set_option maxRecDepth 100000
set_option linter.unusedVariables false
namespace Go.Proofs.Ytdihfpenjbgniaa
open Go.RowKit
open Mem Dk

def Dk.nf : ByteArray := ⟨#[102]⟩
theorem Dk.nf_ok : nameOk nf = true := by decide
theorem Dk.S.keep {P Q : Nat → Prop} {w0 w u : World} {p : Nat} {d : D} (h : S P w0 w p d) (k : UpdQ Q w u) (hQ : ∀ b, P b → ¬ Q b) (hN : ∀ b, Q b → w0.heap.size ≤ b) : S P w0 u p d := ⟨h.dsk.keep k hQ, h.sub, k.below w0 h.bel hN⟩
theorem Dk.turned (y : UInt8) : ∃ z : UInt8, (255 - (y.toNat : Int)) = (z.toNat : Int) := by
  have := y.toNat_lt
  refine ⟨UInt8.ofNat (255 - y.toNat), ?_⟩
  rw [UInt8.toNat_ofNat', Nat.mod_eq_of_lt (by omega)]
  omega
/-- one byte of a block turned -/
theorem Dk.turn_step {P : Nat → Prop} {w0 w : World} {p : Nat} {d : D} (h : S P w0 w p d) {g m : Nat} (hg : ¬ P g) (hn : w0.heap.size ≤ g) {ys : List UInt8} (hb : By.Block w g ys) (hl : ys.length = m) {k : Nat} (hk : k < m) :
    ∃ y : UInt8, w.cell? ⟨g, k, none⟩ = some (.int .u8 (y.toNat : Int)) ∧ (y.toNat : Int) ≤ 255 ∧ w.frozen? ⟨g, k, none⟩ = false ∧ (∃ zs, By.Block (w.setCell ⟨g, k, none⟩ (.int .u8 (255 - (y.toNat : Int)))) g zs ∧ zs.length = m) ∧ S P w0 (w.setCell ⟨g, k, none⟩ (.int .u8 (255 - (y.toNat : Int)))) p d := by
  have hk' : k < ys.length := hl ▸ hk
  refine ⟨ys[k], hb.row k hk', ?_, hb.frozen k, ?_, h.keep (UpdQ.set (Q := fun b => b = g) w rfl k _) (fun b z e => hg (e ▸ z)) fun b e => e ▸ hn⟩
  · have := ys[k].toNat_lt
    omega
  · obtain ⟨z, hz⟩ := turned ys[k]
    rw [hz]
    exact ⟨_, hb.store k z, by rw [List.length_set]; exact hl⟩
set_option maxHeartbeats 4000000 in
theorem dk_kept (ao : Option Addr) (n cap : Nat) (bs : List UInt8) (w : World) (hL : By.Ls w ao n cap bs) (hn : n ≤ 500) (a0 : Option Addr) (n0 cap0 : Nat) (h0 : n0 ≤ 9223372036854775807) (hcase : (a0 = ao ∧ n0 = n ∧ cap0 = cap) ∨ (500 < n0 ∧ ∀ u, (Instr.slice 25 (.slice a0 n0 cap0) none (some (.int .i64 500)) none).run Try.prog u = .ok (.slice ao n cap) u)) :
    Calls Try.prog 7 #[.slice a0 n0 cap0] w fun e w' => e = .returned (.bool true) ∧ Below w.heap.size w w' := by
  have HL := Lib.hid hL
  have HLen := Lib.hid hL.len
  have hcap := hL.reach
  have hfit := hL.fits
  have A1 : Hid (appD Dk.new nf bs = (0, ⟨[⟨nf, bs, 0⟩], false, -1⟩)) := Lib.hid (run_a1 nf nf_ok bs (by have := hL.len; omega) (-1) (by decide))
  clear hL
  rcases hcase with ⟨rfl, rfl, rfl⟩ | ⟨hbig, hcut⟩
  · have hsm : ¬ (500 : Int) < (n0 : Int) := by omega
    go_enter Try.func7, Try.ntmps7
    go_wp2_with (first | (go_at_call 9; refine (s_new w).mono ?_; rintro e W1 ⟨p, rfl, h1⟩; have H1 := Lib.hid h1.tight; have C1 := Lib.hid (By.roomy bs 9 a0 n0 cap0 W1 (HL.out.below h1.bel) (by omega)); clear h1) | (go_at_call 25; refine C1.out.mono ?_))
    rintro e W2 ⟨rfl, k2, b2⟩
    have HK2 := Lib.hid k2
    have H2 := Lib.hid (H1.out.later b2)
    have hw1 : Hid (w.heap.size ≤ W1.heap.size) := Lib.hid H1.out.bel.size
    have hL2 : By.Ls W2 (some ⟨W1.heap.size, 0, none⟩) (n0 + 80) (n0 + 80) (bs ++ List.replicate 80 9) := by
      have h3 := k2.ls (by rw [List.length_append, List.length_replicate, ← HLen.out]; omega)
      rw [List.length_append, List.length_replicate, ← HLen.out] at h3
      exact h3
    obtain ⟨hsl, hL3⟩ := hL2.to n0 (by omega)
    rw [List.take_left' HLen.out.symm] at hL3
    have C2 := Lib.hid (s_append H2.out nf (by decide) _ _ _ bs hL3 (fun _ ad e z => by cases e; exact Nat.lt_irrefl _ z.2) (by decide))
    rw [A1.out] at C2
    clear k2 b2 hL2 hL3 C1
    go_wp2_with (go_at_call 12; refine C2.out.mono ?_)
    rintro e W3 ⟨rfl, h3, q3⟩
    have hG : Hid (¬ nw (fun b => w.heap.size ≤ b ∧ b < W1.heap.size) W2 W1.heap.size) := Lib.hid fun z => by
      have h4 := HK2.out.lt
      rcases z with z | z
      · exact Nat.lt_irrefl _ z.2
      · omega
    have HK3 := Lib.hid ((q3.block _ HK2.out.lt fun z => Nat.lt_irrefl _ z.2).trans HK2.out)
    have H3 := Lib.hid h3
    have C3 := Lib.hid (By.intact bs 9 a0 W1.heap.size n0 cap0 W3 (HL.out.below h3.bel) HK3.out (by omega))
    clear h3 q3 C2 hsl
    go_wp2_with (go_at_call 26; refine C3.out.mono ?_)
    rintro e W4 ⟨rfl, b4⟩
    have H4 := Lib.hid (H3.out.later b4)
    have HK4 := Lib.hid (By.Block.below HK3.out b4)
    have hlen4 : Hid ((bs ++ List.replicate 80 (9 : UInt8)).length = n0 + 80) := Lib.hid (by rw [List.length_append, List.length_replicate, ← HLen.out])
    clear b4 H3 HK3 C3 H2 HK2 H1
    go_wp2_with fail
    go_loopw [5] (fun i wr => ∃ k : Nat, k ≤ n0 + 80 ∧ i = .int .i64 k ∧ Hid (∃ ys, By.Block wr W1.heap.size ys ∧ ys.length = n0 + 80) ∧ Hid (S (nw (fun b => w.heap.size ≤ b ∧ b < W1.heap.size) W2) w wr p ⟨[⟨nf, bs, 0⟩], false, -1⟩)) (fun i _ => n0 + 80 - (intOf i).toNat)
    case atStart => exact ⟨0, by omega, rfl, Lib.hid ⟨_, HK4.out, hlen4.out⟩, H4⟩
    case round =>
      rename World => wz
      obtain ⟨k, hk, rfl, HY, HS⟩ := hrel
      by_cases hlt : k < n0 + 80
      · obtain ⟨ys, hy1, hy2⟩ := HY.out
        obtain ⟨y, e1, e2, e3, e4, e5⟩ := turn_step HS.out hG.out hw1.out hy1 hy2 hlt
        have HY' := Lib.hid e4
        have HS' := Lib.hid e5
        have e2' : (0 : Int) ≤ (y.toNat : Int) := by omega
        clear e4 e5 hy1 hy2 HY HS
        generalize (y.toNat : Int) = yy at e1 e2 e2' HY' HS'
        go_wp2_with fail
        go_roundw
        case rel => exact ⟨k + 1, by omega, by go_num, HY', HS'⟩
        case measure => simp [intOf]; omega
      · obtain rfl : k = n0 + 80 := by omega
        have HT := Lib.hid HS.out.tight
        have C5 := Lib.hid (s_read HS.out nf)
        clear HY H4 HK4
        go_wp2_with (go_at_call 23; refine C5.out.mono ?_)
        rintro e W6 ⟨b6, h6⟩
        have ho : Dk.own nf [⟨nf, bs, 0⟩] = ⟨nf, bs, 0⟩ := one_own _ _ _
        have hh : has nf [⟨nf, bs, 0⟩] = true := one_has _ _ _
        rcases h6 with ⟨h6, _⟩ | ⟨_, g, rfl, hb, hg⟩
        · rw [show has nf _ = true from hh] at h6
          cases h6
        · simp only [ho] at hb ⊢
          have H6 := Lib.hid (HT.out.later b6)
          have HG6 : Hid (¬ (nw (fun b => w.heap.size ≤ b ∧ b < W1.heap.size) W2 g ∧ g < wz.heap.size)) := Lib.hid fun z => by
            have := z.2
            omega
          have hw6 : Hid (w.heap.size ≤ g) := Lib.hid (Nat.le_trans HT.out.bel.size hg)
          have HB6 := Lib.hid hb
          have hbl : bs.length = n0 := HLen.out.symm
          rw [hbl]
          clear hb hg b6 HT C5 hbl HS
          go_wp2_with fail
          go_loopw [8] (fun i wr => ∃ k : Nat, k ≤ n0 ∧ i = .int .i64 k ∧ Hid (∃ ys, By.Block wr g ys ∧ ys.length = n0) ∧ Hid (S (fun b => nw (fun b => w.heap.size ≤ b ∧ b < W1.heap.size) W2 b ∧ b < wz.heap.size) w wr p ⟨[⟨nf, bs, 0⟩], false, -1⟩)) (fun i _ => n0 - (intOf i).toNat)
          case atStart => exact ⟨0, by omega, rfl, Lib.hid ⟨_, HB6.out, HLen.out.symm⟩, H6⟩
          case round =>
            rename_i wy
            obtain ⟨k, hk, rfl, HY, HS⟩ := hrel
            by_cases hlt : k < n0
            · obtain ⟨ys, hy1, hy2⟩ := HY.out
              obtain ⟨y, e1, e2, e3, e4, e5⟩ := turn_step HS.out HG6.out hw6.out hy1 hy2 hlt
              have HY' := Lib.hid e4
              have HS' := Lib.hid e5
              have e2' : (0 : Int) ≤ (y.toNat : Int) := by omega
              clear e4 e5 hy1 hy2 HY HS
              generalize (y.toNat : Int) = yy at e1 e2 e2' HY' HS'
              go_wp2_with fail
              go_roundw
              case rel => exact ⟨k + 1, by omega, by go_num, HY', HS'⟩
              case measure => simp [intOf]; omega
            · obtain rfl : k = n0 := by omega
              have C7 := Lib.hid (s_read HS.out nf)
              have H7 := Lib.hid HS.out
              clear HY H6 HB6 HS
              go_wp2_with (go_at_call 23; refine C7.out.mono ?_)
              rintro e W7 ⟨b7, h7⟩
              rcases h7 with ⟨h7, _⟩ | ⟨_, g7, rfl, hb7, hg7⟩
              · rw [show has nf _ = true from hh] at h7
                cases h7
              · simp only [ho] at hb7 ⊢
                have hbl : bs.length = k := HLen.out.symm
                have hL7 := hb7.ls (by omega)
                rw [hbl] at hL7
                rw [hbl]
                have HB7 := Lib.hid (bchain H7.out.bel b7)
                have C8 := Lib.hid (By.same_any bs bs _ _ _ _ _ _ W7 hL7 (HL.out.below HB7.out))
                rw [decide_eq_true rfl] at C8
                clear b7 hb7 hg7 C7 H7 hL7 hbl
                go_wp2_with (first | (go_at_call 10; refine C8.out.mono ?_; rintro e W8 ⟨rfl, b8⟩; have HB8 := Lib.hid (bchain HB7.out b8); clear b8 C8 HB7) | (go_at_call 3; refine (diskRuns_walk _).mono ?_; rintro e W9 ⟨rfl, b9⟩; have HB9 := Lib.hid (bchain HB8.out b9); clear b9 HB8))
                go_ret
                exact ⟨rfl, HB9.out⟩
  · have hbig' : (500 : Int) < (n0 : Int) := by omega
    go_enter Try.func7, Try.ntmps7
    go_wp2_with (first | (go_at_call 9; refine (s_new w).mono ?_; rintro e W1 ⟨p, rfl, h1⟩; have H1 := Lib.hid h1.tight; have C1 := Lib.hid (By.roomy bs 9 ao n cap W1 (HL.out.below h1.bel) (by omega)); clear h1) | (go_at_call 25; refine C1.out.mono ?_))
    rintro e W2 ⟨rfl, k2, b2⟩
    have HK2 := Lib.hid k2
    have H2 := Lib.hid (H1.out.later b2)
    have hw1 : Hid (w.heap.size ≤ W1.heap.size) := Lib.hid H1.out.bel.size
    have hL2 : By.Ls W2 (some ⟨W1.heap.size, 0, none⟩) (n + 80) (n + 80) (bs ++ List.replicate 80 9) := by
      have h3 := k2.ls (by rw [List.length_append, List.length_replicate, ← HLen.out]; omega)
      rw [List.length_append, List.length_replicate, ← HLen.out] at h3
      exact h3
    obtain ⟨hsl, hL3⟩ := hL2.to n (by omega)
    rw [List.take_left' HLen.out.symm] at hL3
    have C2 := Lib.hid (s_append H2.out nf (by decide) _ _ _ bs hL3 (fun _ ad e z => by cases e; exact Nat.lt_irrefl _ z.2) (by decide))
    rw [A1.out] at C2
    clear k2 b2 hL2 hL3 C1
    go_wp2_with (go_at_call 12; refine C2.out.mono ?_)
    rintro e W3 ⟨rfl, h3, q3⟩
    have hG : Hid (¬ nw (fun b => w.heap.size ≤ b ∧ b < W1.heap.size) W2 W1.heap.size) := Lib.hid fun z => by
      have h4 := HK2.out.lt
      rcases z with z | z
      · exact Nat.lt_irrefl _ z.2
      · omega
    have HK3 := Lib.hid ((q3.block _ HK2.out.lt fun z => Nat.lt_irrefl _ z.2).trans HK2.out)
    have H3 := Lib.hid h3
    have C3 := Lib.hid (By.intact bs 9 ao W1.heap.size n cap W3 (HL.out.below h3.bel) HK3.out (by omega))
    clear h3 q3 C2 hsl
    go_wp2_with (go_at_call 26; refine C3.out.mono ?_)
    rintro e W4 ⟨rfl, b4⟩
    have H4 := Lib.hid (H3.out.later b4)
    have HK4 := Lib.hid (By.Block.below HK3.out b4)
    have hlen4 : Hid ((bs ++ List.replicate 80 (9 : UInt8)).length = n + 80) := Lib.hid (by rw [List.length_append, List.length_replicate, ← HLen.out])
    clear b4 H3 HK3 C3 H2 HK2 H1
    go_wp2_with fail
    go_loopw [5] (fun i wr => ∃ k : Nat, k ≤ n + 80 ∧ i = .int .i64 k ∧ Hid (∃ ys, By.Block wr W1.heap.size ys ∧ ys.length = n + 80) ∧ Hid (S (nw (fun b => w.heap.size ≤ b ∧ b < W1.heap.size) W2) w wr p ⟨[⟨nf, bs, 0⟩], false, -1⟩)) (fun i _ => n + 80 - (intOf i).toNat)
    case atStart => exact ⟨0, by omega, rfl, Lib.hid ⟨_, HK4.out, hlen4.out⟩, H4⟩
    case round =>
      rename World => wz
      obtain ⟨k, hk, rfl, HY, HS⟩ := hrel
      by_cases hlt : k < n + 80
      · obtain ⟨ys, hy1, hy2⟩ := HY.out
        obtain ⟨y, e1, e2, e3, e4, e5⟩ := turn_step HS.out hG.out hw1.out hy1 hy2 hlt
        have HY' := Lib.hid e4
        have HS' := Lib.hid e5
        have e2' : (0 : Int) ≤ (y.toNat : Int) := by omega
        clear e4 e5 hy1 hy2 HY HS
        generalize (y.toNat : Int) = yy at e1 e2 e2' HY' HS'
        go_wp2_with fail
        go_roundw
        case rel => exact ⟨k + 1, by omega, by go_num, HY', HS'⟩
        case measure => simp [intOf]; omega
      · obtain rfl : k = n + 80 := by omega
        have HT := Lib.hid HS.out.tight
        have C5 := Lib.hid (s_read HS.out nf)
        clear HY H4 HK4
        go_wp2_with (go_at_call 23; refine C5.out.mono ?_)
        rintro e W6 ⟨b6, h6⟩
        have ho : Dk.own nf [⟨nf, bs, 0⟩] = ⟨nf, bs, 0⟩ := one_own _ _ _
        have hh : has nf [⟨nf, bs, 0⟩] = true := one_has _ _ _
        rcases h6 with ⟨h6, _⟩ | ⟨_, g, rfl, hb, hg⟩
        · rw [show has nf _ = true from hh] at h6
          cases h6
        · simp only [ho] at hb ⊢
          have H6 := Lib.hid (HT.out.later b6)
          have HG6 : Hid (¬ (nw (fun b => w.heap.size ≤ b ∧ b < W1.heap.size) W2 g ∧ g < wz.heap.size)) := Lib.hid fun z => by
            have := z.2
            omega
          have hw6 : Hid (w.heap.size ≤ g) := Lib.hid (Nat.le_trans HT.out.bel.size hg)
          have HB6 := Lib.hid hb
          have hbl : bs.length = n := HLen.out.symm
          rw [hbl]
          clear hb hg b6 HT C5 hbl HS
          go_wp2_with fail
          go_loopw [8] (fun i wr => ∃ k : Nat, k ≤ n ∧ i = .int .i64 k ∧ Hid (∃ ys, By.Block wr g ys ∧ ys.length = n) ∧ Hid (S (fun b => nw (fun b => w.heap.size ≤ b ∧ b < W1.heap.size) W2 b ∧ b < wz.heap.size) w wr p ⟨[⟨nf, bs, 0⟩], false, -1⟩)) (fun i _ => n - (intOf i).toNat)
          case atStart => exact ⟨0, by omega, rfl, Lib.hid ⟨_, HB6.out, HLen.out.symm⟩, H6⟩
          case round =>
            rename_i wy
            obtain ⟨k, hk, rfl, HY, HS⟩ := hrel
            by_cases hlt : k < n
            · obtain ⟨ys, hy1, hy2⟩ := HY.out
              obtain ⟨y, e1, e2, e3, e4, e5⟩ := turn_step HS.out HG6.out hw6.out hy1 hy2 hlt
              have HY' := Lib.hid e4
              have HS' := Lib.hid e5
              have e2' : (0 : Int) ≤ (y.toNat : Int) := by omega
              clear e4 e5 hy1 hy2 HY HS
              generalize (y.toNat : Int) = yy at e1 e2 e2' HY' HS'
              go_wp2_with fail
              go_roundw
              case rel => exact ⟨k + 1, by omega, by go_num, HY', HS'⟩
              case measure => simp [intOf]; omega
            · obtain rfl : k = n := by omega
              have C7 := Lib.hid (s_read HS.out nf)
              have H7 := Lib.hid HS.out
              clear HY H6 HB6 HS
              go_wp2_with (go_at_call 23; refine C7.out.mono ?_)
              rintro e W7 ⟨b7, h7⟩
              rcases h7 with ⟨h7, _⟩ | ⟨_, g7, rfl, hb7, hg7⟩
              · rw [show has nf _ = true from hh] at h7
                cases h7
              · simp only [ho] at hb7 ⊢
                have hbl : bs.length = k := HLen.out.symm
                have hL7 := hb7.ls (by omega)
                rw [hbl] at hL7
                rw [hbl]
                have HB7 := Lib.hid (bchain H7.out.bel b7)
                have C8 := Lib.hid (By.same_any bs bs _ _ _ _ _ _ W7 hL7 (HL.out.below HB7.out))
                rw [decide_eq_true rfl] at C8
                clear b7 hb7 hg7 C7 H7 hL7 hbl
                go_wp2_with (first | (go_at_call 10; refine C8.out.mono ?_; rintro e W8 ⟨rfl, b8⟩; have HB8 := Lib.hid (bchain HB7.out b8); clear b8 C8 HB7) | (go_at_call 3; refine (diskRuns_walk _).mono ?_; rintro e W9 ⟨rfl, b9⟩; have HB9 := Lib.hid (bchain HB8.out b9); clear b9 HB8))
                go_ret
                exact ⟨rfl, HB9.out⟩
theorem diskKept_walk (b0 : List UInt8) (a0 : Option Addr) (n0 cap0 : Nat) (w : World) (hL : By.Ls w a0 n0 cap0 b0) (hl : n0 ≤ 140737488351232) :
    Calls Try.prog 7 #[.slice a0 n0 cap0] w fun e w' => e = .returned (.bool true) ∧ Below w.heap.size w w' := by
  by_cases h : n0 ≤ 500
  · exact dk_kept a0 n0 cap0 b0 w hL h a0 n0 cap0 (by omega) (.inl ⟨rfl, rfl, rfl⟩)
  · obtain ⟨h1, h2⟩ := hL.to 500 (by omega)
    exact dk_kept a0 500 cap0 (b0.take 500) w h2 (by omega) a0 n0 cap0 (by omega) (.inr ⟨by omega, h1⟩)
end Go.Proofs.Ytdihfpenjbgniaa
