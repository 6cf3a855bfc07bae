/- CONTRACTS OF PACKAGE pack: a Reader: Num, refuse, Within. -/
import Derived.Test.YtagjbjppddbalaaPkR
import Derived.Lib.QuietBelow
namespace Go.Proofs.Ytagjbjppddbalaa
open Go.RowKit
open Go.Sort (grow)
open Mem Pk

/-- of what was there nothing has turned but one block -/
structure Upd (w : World) (p : Nat) (w' : World) : Prop where
  size : w.heap.size ≤ w'.heap.size
  cell : ∀ b o, b < w.heap.size → b ≠ p → w'.cell? ⟨b, o, none⟩ = w.cell? ⟨b, o, none⟩
  frozen : ∀ b o, b < w.heap.size → w'.frozen? ⟨b, o, none⟩ = w.frozen? ⟨b, o, none⟩
  below : ∀ w0, Below w0.heap.size w0 w → w0.heap.size ≤ p → Below w0.heap.size w0 w'
  block : ∀ b, b < w.heap.size → b ≠ p → w'.heap[b]? = w.heap[b]?
theorem Upd.of {w w' : World} (p : Nat) (h : Below w.heap.size w w') : Upd w p w' :=
  ⟨h.size, fun b o hb _ => (bcell h).1 b o hb, fun b o hb => (bcell h).2 b o hb, fun _ k _ => bchain k h, fun b hb _ => h.block b hb⟩
theorem Upd.refl (w : World) (p : Nat) : Upd w p w := Upd.of p (Below.refl _ _)
theorem Upd.trans {w u v : World} {p : Nat} (h : Upd w p u) (k : Upd u p v) : Upd w p v :=
  ⟨Nat.le_trans h.size k.size, fun b o hb hp => by rw [k.cell b o (Nat.lt_of_lt_of_le hb h.size) hp, h.cell b o hb hp], fun b o hb => by rw [k.frozen b o (Nat.lt_of_lt_of_le hb h.size), h.frozen b o hb], fun w0 a c => k.below w0 (h.below w0 a c) c, fun b hb hp => by rw [k.block b (Nat.lt_of_lt_of_le hb h.size) hp, h.block b hb hp]⟩
theorem Upd.set {w : World} {p o : Nat} (x : Value) : Upd w p (w.setCell ⟨p, o, none⟩ x) := by
  refine ⟨by simp, fun b q _ _ => by simp [go_sem], fun b q _ => by simp [go_sem], fun w0 h hp => h.setCell (p := ⟨p, o, none⟩) hp x, fun b _ hp => Below.heap_setCell w ⟨p, o, none⟩ x b hp⟩
/-- .. and what is new may turn -/
theorem Upd.fresh {w u : World} {p q o : Nat} (h : Upd w p u) (hq : w.heap.size ≤ q) (x : Value) : Upd w p (u.setCell ⟨q, o, none⟩ x) := by
  refine ⟨by simpa using h.size, fun b r hb hp => ?_, fun b r hb => ?_, fun w0 a c => (h.below w0 a c).setCell (p := ⟨q, o, none⟩) (Nat.le_trans a.size hq) x, fun b hb hp => ?_⟩
  · rw [← h.cell b r hb hp]
    simp [go_sem]
  · rw [← h.frozen b r hb]
    simp [go_sem]
  · rw [Below.heap_setCell u ⟨q, o, none⟩ x b (by show b ≠ q; omega), h.block b hb hp]
theorem By.Ls.upd {w w' : World} {p : Nat} {ao : Option Addr} {n cap : Nat} {bs : List UInt8} (h : By.Ls w ao n cap bs) (k : Upd w p w') (hp : ∀ b off, ao = some ⟨b, off, none⟩ → b ≠ p) : By.Ls w' ao n cap bs := by
  refine ⟨h.len, h.fits, h.reach, h.nil, ?_⟩
  rcases h.seg with e | ⟨b, off, e, hc⟩
  · exact .inl e
  · exact .inr ⟨b, off, e, fun i hi => by rw [k.cell _ _ (cell_lt (hc i hi)) (hp b off e)]; exact hc i hi⟩
/-- where a reader stands, and what is wrong -/
structure St where
  at' : Nat
  err : Int
/-- a reader's block and its bytes -/
structure Rd (w : World) (p : Nat) (ao : Option Addr) (n cap : Nat) (bs : List UInt8) (s : St) : Prop where
  c0 : w.cell? ⟨p, 0, none⟩ = some (.slice ao n cap)
  c1 : w.cell? ⟨p, 1, none⟩ = some (.int .i64 (s.at' : Int))
  c2 : w.cell? ⟨p, 2, none⟩ = some (.int .i64 s.err)
  fz : ∀ o, w.frozen? ⟨p, o, none⟩ = false
  ls : By.Ls w ao n cap bs
  apart : ∀ b off, ao = some ⟨b, off, none⟩ → b ≠ p
  place : s.at' ≤ n
theorem Rd.below {w w' : World} {p : Nat} {ao : Option Addr} {n cap : Nat} {bs : List UInt8} {s : St} (h : Rd w p ao n cap bs s) (k : Below w.heap.size w w') : Rd w' p ao n cap bs s := by
  have hl := cell_lt h.c0
  exact ⟨by rw [(bcell k).1 _ _ hl]; exact h.c0, by rw [(bcell k).1 _ _ hl]; exact h.c1, by rw [(bcell k).1 _ _ hl]; exact h.c2, fun o => by rw [(bcell k).2 _ _ hl]; exact h.fz o, h.ls.below k, h.apart, h.place⟩
theorem Rd.at {w : World} {p : Nat} {ao : Option Addr} {n cap : Nat} {bs : List UInt8} {s : St} (h : Rd w p ao n cap bs s) (a : Nat) (ha : a ≤ n) : Rd (w.setCell ⟨p, 1, none⟩ (.int .i64 (a : Int))) p ao n cap bs ⟨a, s.err⟩ :=
  ⟨by simp [go_sem, h.c0], by simp [go_sem, h.c1], by simp [go_sem, h.c2], fun o => by simp [go_sem, h.fz], h.ls.upd (Upd.set _) h.apart, h.apart, ha⟩
theorem Rd.wrong {w : World} {p : Nat} {ao : Option Addr} {n cap : Nat} {bs : List UInt8} {s : St} (h : Rd w p ao n cap bs s) (e : Int) : Rd (w.setCell ⟨p, 2, none⟩ (.int .i64 e)) p ao n cap bs ⟨s.at', e⟩ :=
  ⟨by simp [go_sem, h.c0], by simp [go_sem, h.c1], by simp [go_sem, h.c2], fun o => by simp [go_sem, h.fz], h.ls.upd (Upd.set _) h.apart, h.apart, h.place⟩
/-- reading a number -/
def rNum (bs : List UInt8) (s : St) : Int × St := if s.err ≠ 0 then (0, s) else match num (bs.drop s.at') with
  | .inl e => (0, ⟨s.at', e⟩)
  | .inr q => (uz q.1, ⟨s.at' + q.2, 0⟩)
theorem rNum_wrong {bs : List UInt8} {s : St} (h : s.err ≠ 0) : rNum bs s = (0, s) := by unfold rNum; rw [if_pos h]
theorem rNum_bad {bs : List UInt8} {s : St} {e : Int} (h : s.err = 0) (k : num (bs.drop s.at') = .inl e) : rNum bs s = (0, ⟨s.at', e⟩) := by unfold rNum; rw [if_neg (by simp [h]), k]
theorem rNum_ok {bs : List UInt8} {s : St} {u z : Nat} (h : s.err = 0) (k : num (bs.drop s.at') = .inr (u, z)) : rNum bs s = (uz u, ⟨s.at' + z, 0⟩) := by unfold rNum; rw [if_neg (by simp [h]), k]
def AnsPk (f : FuncId) (args : Array Value) (u : World) (i : Nat) (os : Array Obj) (v : Value) : Prop :=
  Calls Try.prog f args (grow (redrawn u i) os) fun e w'' => e = .returned v ∧ ∃ p : Regrown, w'' = grow (redrawn u p.d) p.os
/-- what number answers, as a value -/
def numV : Int ⊕ (Nat × Nat) → Value
  | .inl e => .tuple #[.int .i64 0, .int .i64 0, .int .i64 e]
  | .inr p => .tuple #[.int .i64 (uz p.1), .int .i64 (p.2 : Int), .int .i64 0]
theorem number_agg {w : World} {ao : Option Addr} {n cap : Nat} {bs : List UInt8} (h : By.Ls w ao n cap bs) (i : Nat) (os : Array Obj) : AnsPk 56 #[.slice ao n cap] w i os (numV (num bs)) :=
  Calls.regrown_of ((pack_number bs ao n cap _ (h.below (below_regrown w i os))).mono fun e w' ⟨he, hw⟩ => ⟨by rw [he]; cases num bs <;> rfl, by rw [hw]; exact Below.refl _ _⟩)
/-- a number takes no more bytes than there are -/
theorem num_fit {l : List UInt8} {u z : Nat} (h : num l = .inr (u, z)) : z ≤ l.length := by
  obtain ⟨e, h2, _, _⟩ := num_is h
  have := congrArg List.length e
  rw [List.length_append, List.length_drop] at this
  unfold wd at h2
  omega
set_option maxHeartbeats 2000000 in
theorem rd_num (p : Nat) (ao : Option Addr) (n cap : Nat) (bs : List UInt8) (s : St) (w : World) (hR : Rd w p ao n cap bs s) :
    Calls Try.prog 47 #[.pointer (some ⟨p, 0, none⟩)] w fun e w' => e = .returned (.int .i64 (rNum bs s).1) ∧ Rd w' p ao n cap bs (rNum bs s).2 ∧ Upd w p w' := by
  have HR := Lib.hid hR
  obtain ⟨a, er⟩ := s
  obtain ⟨c0, c1, c2, fz, hls, hap, hpl⟩ := hR
  dsimp only at c1 c2 hpl
  have hcap := hls.reach
  have hfit := hls.fits
  have hlen := hls.len
  by_cases he : er = 0
  · subst he
    obtain ⟨ao2, cap2, hsl, hL2, _⟩ := hls.from a hpl
    have k0 := cell_regrown c0
    have k1 := cell_regrown c1
    have kn := number_agg hL2
    cases hn : num (bs.drop a) with
    | inl e =>
      rw [hn] at kn
      unfold numV at kn
      have HN := Lib.hid (rNum_bad (bs := bs) (s := ⟨a, 0⟩) rfl hn)
      clear hn hls hap fz hL2 hlen
      go_enter Try.func47, Try.ntmps47
      go_wp2
      refine wp_region_quiet_below (by kernel_rfl) (by kernel_rfl) ?_
      repeat (first | go_big_quiet_step (first | (go_at_call 56; exact kn _ _)) | quiet_step (first | (go_at_call 56; exact kn _ _)))
      refine wpQuiet_nil ?_
      intro _ hw'
      obtain ⟨⟨dq, osq⟩, hw''⟩ := hw'
      subst hw''
      have bq := below_regrown w dq osq
      have HRq := Lib.hid (HR.out.below bq)
      have HUq := Lib.hid (Upd.of p bq)
      clear k0 k1 kn c0 c1 c2 bq hsl
      generalize grow (redrawn w dq) osq = x at *
      have d1 := HRq.out.c1
      have d2 := HRq.out.c2
      have df := HRq.out.fz
      dsimp only at d1 d2
      go_wp2
      go_ret
      refine ⟨by rw [HN.out]; rfl, ?_, ?_⟩
      · rw [HN.out]
        exact (HRq.out.at a hpl).wrong e
      · exact (HUq.out.trans (Upd.set _)).trans (Upd.set _)
    | inr q =>
      obtain ⟨u, z⟩ := q
      rw [hn] at kn
      unfold numV at kn
      have hz : a + z ≤ n := by
        have := num_fit hn
        rw [List.length_drop] at this
        omega
      have HN := Lib.hid (rNum_ok (bs := bs) (s := ⟨a, 0⟩) rfl hn)
      clear hn hls hap fz hL2 hlen
      go_enter Try.func47, Try.ntmps47
      go_wp2
      refine wp_region_quiet_below (by kernel_rfl) (by kernel_rfl) ?_
      repeat (first | go_big_quiet_step (first | (go_at_call 56; exact kn _ _)) | quiet_step (first | (go_at_call 56; exact kn _ _)))
      refine wpQuiet_nil ?_
      intro _ hw'
      obtain ⟨⟨dq, osq⟩, hw''⟩ := hw'
      subst hw''
      have bq := below_regrown w dq osq
      have HRq := Lib.hid (HR.out.below bq)
      have HUq := Lib.hid (Upd.of p bq)
      clear k0 k1 kn c0 c1 c2 bq hsl
      generalize grow (redrawn w dq) osq = x at *
      have d1 := HRq.out.c1
      have d2 := HRq.out.c2
      have df := HRq.out.fz
      dsimp only at d1 d2
      go_wp2
      go_ret
      refine ⟨by rw [HN.out]; rfl, ?_, ?_⟩
      · rw [HN.out]
        have := (HRq.out.at (a + z) hz).wrong 0
        simpa using this
      · exact (HUq.out.trans (Upd.set _)).trans (Upd.set _)
  · have HN := Lib.hid (rNum_wrong (bs := bs) (s := ⟨a, er⟩) he)
    have hne : (er != 0) = true := bne_iff_ne.2 he
    clear hls hap fz
    go_enter Try.func47, Try.ntmps47
    go_wp2
    go_ret
    exact ⟨by rw [HN.out]; rfl, by rw [HN.out]; exact HR.out, Upd.refl _ _⟩
end Go.Proofs.Ytagjbjppddbalaa
