/- CONTRACTS OF PACKAGE disk: Crash. -/
import Derived.Test.YtegniklofhopeaaDkX
import Derived.Test.YtegniklofhopeaaArgsI
set_option maxRecDepth 100000
set_option linter.unusedVariables false
namespace Go.Proofs.Ytegniklofhopeaa
open Go.RowKit
open Mem Dk

theorem Dk.tear_name (f : F) (p : Nat) : (tear f p).name = f.name := rfl
theorem Dk.tear_kept (f : F) (p : Nat) : (tear f p).kept = (tear f p).bs.length := rfl
theorem Dk.tear_le (f : F) (p : Nat) : (tear f p).bs.length ≤ f.bs.length := by
  unfold tear
  simp only
  split
  · unfold Dk.flip
    rw [List.length_set, List.length_take]
    exact Nat.min_le_right _ _
  · rw [List.length_take]
    exact Nat.min_le_right _ _
theorem Dk.tear_ok {d : D} (h : Ok d) {k : Nat} (hk : k < d.fs.length) (p : Nat) : Ok ⟨d.fs.set k (tear d.fs[k] p), d.off, d.left⟩ := by
  have hm : ∀ f ∈ d.fs.set k (tear d.fs[k] p), f = tear d.fs[k] p ∨ f ∈ d.fs := fun f hf => (List.mem_or_eq_of_mem_set hf).symm
  have h1 := total_set hk (tear d.fs[k] p)
  have h2 := tear_le d.fs[k] p
  have h3 := h.room
  refine ⟨set_sorted h.sorted hk rfl, fun f hf => ?_, by show total (d.fs.set k (tear d.fs[k] p)) ≤ _; omega, fun f hf => ?_, h.left⟩
  · rcases hm f hf with rfl | hf
    · exact Nat.le_of_eq (tear_kept _ _)
    · exact h.kept f hf
  · rcases hm f hf with rfl | hf
    · show d.fs[k].name.size ≤ 24
      exact h.names _ (List.getElem_mem hk)
    · exact h.names f hf
/-- the first k torn -/
def Dk.upto (zs : List Int) (k : Nat) (fs : List F) : List F := fs.mapIdx fun i f => if i < k then tear f (pick zs i) else f
theorem Dk.upto_zero (zs : List Int) (fs : List F) : upto zs 0 fs = fs := by
  apply List.ext_getElem?
  intro i
  unfold upto
  rw [List.getElem?_mapIdx]
  cases fs[i]? <;> simp
theorem Dk.upto_all (zs : List Int) (fs : List F) : upto zs fs.length fs = fs.mapIdx fun i f => tear f (pick zs i) := by
  apply List.ext_getElem?
  intro i
  unfold upto
  rw [List.getElem?_mapIdx, List.getElem?_mapIdx]
  by_cases h : i < fs.length
  · simp only [if_pos h]
  · rw [List.getElem?_eq_none (Nat.le_of_not_lt h)]
    rfl
theorem Dk.upto_len (zs : List Int) (k : Nat) (fs : List F) : (upto zs k fs).length = fs.length := by
  unfold upto
  rw [List.length_mapIdx]
theorem Dk.upto_next (zs : List Int) (fs : List F) {k : Nat} (hk : k < (upto zs k fs).length) : (upto zs k fs).set k (tear (upto zs k fs)[k] (pick zs k)) = upto zs (k + 1) fs := by
  have hf : k < fs.length := by rw [← upto_len zs k fs]; exact hk
  have e0 : (upto zs k fs)[k]? = some fs[k] := by
    unfold upto
    rw [List.getElem?_mapIdx, List.getElem?_eq_getElem hf]
    simp
  have e : (upto zs k fs)[k] = fs[k] := (List.getElem?_eq_some_iff.1 e0).2
  rw [e]
  apply List.ext_getElem?
  intro i
  rw [List.getElem?_set, upto_len]
  by_cases h : k = i
  · subst h
    rw [if_pos rfl, if_pos hf]
    unfold upto
    rw [List.getElem?_mapIdx, List.getElem?_eq_getElem hf]
    simp
  · rw [if_neg h]
    unfold upto
    rw [List.getElem?_mapIdx, List.getElem?_mapIdx]
    have : (i < k + 1) = (i < k) := by rw [eq_iff_iff]; omega
    simp only [this]
section
variable {P : Nat → Prop} {w u : World} {p : Nat} {d : D} {v : Sl} {L : Int} {rs : List Fl.T}
/-- one row turned, its bytes where they were -/
theorem Dk.At.stay (h : At P w p d v L rs) {k : Nat} (hk : k < rs.length) {r' : Fl.T} {f' : F} (rows : Fl.Own u 0 (sl v) (rs.set k r')) (one : One u r' f') (hu : UpdQ (fun b => (sl v).ownBlock = some b ∨ (sl rs[k].bytes).ownBlock = some b) w u)
    (hb : (sl r'.bytes).ownBlock = (sl rs[k].bytes).ownBlock) (ok : Ok ⟨d.fs.set k f', d.off, d.left⟩) : At P u p ⟨d.fs.set k f', d.off, d.left⟩ v L (rs.set k r') := by
  have h1 := Dk.At.row h hk rows one hu (.inl hb) ok
  have hpb : ∀ r ∈ rs.set k r', Pb P p (sl v) r := fun r hr => by
    rcases List.mem_or_eq_of_mem_set hr with hr | rfl
    · exact h.pbs r hr
    · exact fun b e => h.pb k hk b (hb ▸ e)
  exact ⟨h1.box, h1.arm, h1.rows, h1.each, h.pp, h.pv, fun i hi b e => hpb _ (List.getElem_mem hi) b e, h1.ap, h1.ok, h1.few⟩
theorem Ints.keep {Q : Nat → Prop} {w u : World} {ao : Option Addr} {n cap : Nat} {zs : List Int} (h : Ints w ao n cap zs) (k : UpdQ Q w u) (hQ : zs ≠ [] → ∀ ad, ao = some ad → ¬ Q ad.block) : Ints u ao n cap zs := by
  refine ⟨h.len, h.fits, h.reach, ?_, h.wf⟩
  rcases h.seg with e | ⟨b, off, e, hc⟩
  · exact .inl e
  · refine .inr ⟨b, off, e, fun i hi => ?_⟩
    have h1 := hc i hi
    have h2 := k.block b (cell_lt h1) (hQ (List.ne_nil_of_length_pos (by omega)) _ e)
    rw [← h1]
    unfold World.cell?
    simp only
    rw [h2]
/-- row k torn -/
theorem Dk.torn_row (h : At P w p d v L rs) {k : Nat} (hk : k < rs.length) (pk : Nat) (hp : pk ≤ 9223372036854775807) :
    ∃ g, w.cell? ⟨p, 0, none⟩ = some (.slice (some ⟨g, 0, none⟩) v.n v.cap) ∧ Calls Try.prog 41 #[.pointer (some ⟨g, k * 3, none⟩), .int .i64 (pk : Int)] w fun e w' => e = .returned (.tuple #[]) ∧ (∃ rs', At P w' p ⟨d.fs.set k (tear (d.fs[k]'(h.each.len ▸ hk)) pk), d.off, d.left⟩ v L rs') ∧ UpdQ P w w' := by
  have hn := h.n
  have hkf : k < d.fs.length := h.each.len ▸ hk
  obtain ⟨g, hv, hg⟩ := Dk.At.spot h (by omega)
  have hc := h.box.cells.1
  rw [hv] at hc
  have hone : One w rs[k] d.fs[k] := ⟨h.each.name k hk, h.each.kept k hk, h.each.own k hk⟩
  have hb1 := h.ok.kept _ (List.getElem_mem hkf)
  have hb2 := total_mem (List.getElem_mem hkf)
  have hb3 := h.ok.room
  refine ⟨g, hc, (fl_tear w g v.n v.cap rs k (sl_eq hv ▸ h.rows) hk d.fs[k] hone hb1 (by omega) (fun b e z => (h.pb k hk b e).2.2 (by rw [z]; exact hg)) pk hp).mono ?_⟩
  rintro e w' ⟨rfl, r', a1, a2, a3, a4⟩
  refine ⟨rfl, ⟨rs.set k r', Dk.At.stay h hk (sl_eq hv ▸ a1) a2 (a4.mono fun b z => z.imp (fun z => by rw [z]; exact hg) id) a3 (tear_ok h.ok hkf pk)⟩, a4.mono fun b z => z.elim (fun z => by rw [z]; exact (h.pv g hg).1) fun z => (h.pb k hk b z).1⟩
def Dk.CrashE (P : Nat → Prop) (w : World) (p : Nat) (d : D) (zs : List Int) (e : Ending) (w' : World) : Prop := e = .returned (.tuple #[]) ∧ Dsk P w' p (crashD d zs) ∧ UpdQ P w w'
set_option maxHeartbeats 4000000 in
theorem dk_crash (h : At P w p d v L rs) (ao : Option Addr) (n cap : Nat) (zs : List Int) (hI : Ints w ao n cap zs) (hap : zs ≠ [] → ∀ ad, ao = some ad → ¬ P ad.block) :
    Calls Try.prog 15 #[.pointer (some ⟨p, 0, none⟩), .slice ao n cap] w (CrashE P w p d zs) := by
  have hn := h.n
  have few := h.few
  have HI := Lib.hid hI
  have hcap := hI.reach
  have hfit := hI.fits
  have HLen := Lib.hid hI.len
  obtain ⟨c0, c1, c2, c3⟩ := h.box.cells
  have f1 := h.box.frozen 1
  have h1 := h.setOff false
  have k1 : UpdQ P w (w.setCell ⟨p, 1, none⟩ (.bool false)) := UpdQ.set (Q := P) w h.pp _ _
  obtain ⟨W1, hW1⟩ : ∃ W1, w.setCell ⟨p, 1, none⟩ (.bool false) = W1 := ⟨_, rfl⟩
  rw [hW1] at h1 k1
  have HAr := Lib.hid (dk_arm (-1) ⟨by omega, by omega⟩ h1)
  have HK1 := Lib.hid k1
  have HP := Lib.hid h.pp
  have HN : Hid (v.n = d.fs.length) := Lib.hid hn.1
  obtain ⟨N, hN⟩ : ∃ N, v.n = N := ⟨_, rfl⟩
  have hNm : N ≤ 1000 := by omega
  have HNe := Lib.hid hN
  clear h h1 k1 hI hn
  go_enter Try.func15, Try.ntmps15
  go_wp2_with (go_at_call 26; refine HAr.out.mono ?_)
  rintro e W2 ⟨rfl, h2, q2⟩
  have h2' : At P W2 p ⟨d.fs, false, -1⟩ v (-1) rs := h2
  have HK2 := Lib.hid (HK1.out.trans (q2.mono (R := P) fun b z => z ▸ HP.out))
  have HS2 := Lib.hid h2'
  obtain ⟨d0, d1, d2, d3⟩ := h2'.box.cells
  rw [hN] at d0
  clear h2 h2' q2 HAr hW1 c0 c1 c2 c3 f1 HK1 hN
  go_wp2_with fail
  go_loopw [4, 5, 16] (fun _ _ i wr => ∃ k : Nat, k ≤ N ∧ i = .int .i64 k ∧ Hid (∃ rs', At P wr p ⟨upto zs k d.fs, false, -1⟩ v (-1) rs') ∧ Hid (UpdQ P w wr)) (fun _ _ i _ => N - (intOf i).toNat)
  case atStart => exact ⟨0, by omega, rfl, Lib.hid ⟨rs, by rw [upto_zero]; exact HS2.out⟩, HK2⟩
  case round =>
    rename World => wz
    obtain ⟨k, hk, rfl, HS, HK⟩ := hrel
    by_cases hlt : k < N
    · obtain ⟨rs', h3⟩ := HS.out
      have hkr : k < rs'.length := by
        have h4 := h3.n
        have h5 := HNe.out
        omega
      have hku : k < (upto zs k d.fs).length := h3.each.len ▸ hkr
      have HNx := Lib.hid (upto_next zs d.fs hku)
      have hpf : pick zs k ≤ 9223372036854775807 := by
        unfold pick
        by_cases hz : k < zs.length
        · have := HI.out.wf _ (List.getElem_mem hz)
          rw [List.getElem?_eq_getElem hz]
          show zs[k].toNat ≤ _
          unfold Fit at this
          omega
        · rw [List.getElem?_eq_none (Nat.le_of_not_lt hz)]
          decide
      obtain ⟨g, e0, hT⟩ := torn_row h3 hkr (pick zs k) hpf
      rw [HNe.out] at e0
      have HT : Hid (Calls Try.prog 41 #[.pointer (some ⟨g, k * 3, none⟩), .int .i64 ((pick zs k : Nat) : Int)] wz fun e w' => e = .returned (.tuple #[]) ∧ Hid (∃ rs', At P w' p ⟨upto zs (k + 1) d.fs, false, -1⟩ v (-1) rs') ∧ Hid (UpdQ P w w')) := Lib.hid (hT.mono fun e w' z => ⟨z.1, Lib.hid (HNx.out ▸ z.2.1), Lib.hid (HK.out.trans z.2.2)⟩)
      by_cases hz : k < n
      · obtain ⟨b, off, z, hao, hc, hfz⟩ := (HI.out.keep HK.out hap).at k hz
        have hpk : max z 0 = ((pick zs k : Nat) : Int) := by
          unfold pick
          have hz' : k < zs.length := HLen.out ▸ hz
          have e1 : zs[k] = z := by
            rcases (HI.out.keep HK.out hap).seg with e | ⟨b', off', e', hc'⟩
            · rw [e] at hz'
              simp at hz'
            · rw [hao] at e'
              cases e'
              have := hc' k hz'
              rw [hc] at this
              cases this
              rfl
          rw [List.getElem?_eq_getElem hz', e1]
          show max z 0 = ((z.toNat : Nat) : Int)
          omega
        subst hao
        generalize pick zs k = pk at hpk HT hpf
        clear h3 hT HNx hkr hku hfz
        go_wp2_with (go_at_call 41; refine HT.out.mono ?_; rintro e W3 ⟨rfl, HS3, HK3⟩)
        go_roundw
        case rel => exact ⟨k + 1, by omega, by go_num, HS3, HK3⟩
        case measure => simp [intOf]; omega
      · have hpk : pick zs k = 0 := by
          unfold pick
          rw [List.getElem?_eq_none (by have := HLen.out; omega)]
          rfl
        rw [hpk] at HT
        clear h3 hT HNx hkr hku hpk hpf
        go_wp2_with (go_at_call 41; refine HT.out.mono ?_; rintro e W3 ⟨rfl, HS3, HK3⟩)
        go_roundw
        case rel => exact ⟨k + 1, by omega, by go_num, HS3, HK3⟩
        case measure => simp [intOf]; omega
    · obtain rfl : k = N := by omega
      have HE : Hid (CrashE P w p d zs (.returned (.tuple #[])) wz) := Lib.hid (by
        obtain ⟨rs', h3⟩ := HS.out
        rw [show k = d.fs.length from HNe.out.symm.trans HN.out, upto_all] at h3
        exact ⟨rfl, ⟨v, -1, rs', h3⟩, HK.out⟩)
      go_wp2_with fail
      go_end0
      exact HE.out
end
end Go.Proofs.Ytegniklofhopeaa
