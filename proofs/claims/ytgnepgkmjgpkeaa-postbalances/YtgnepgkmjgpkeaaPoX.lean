/- PLAIN LEAN: a total's entries, entered again and again; no Go walked here. -/
import Derived.Test.YtgnepgkmjgpkeaaPoU
set_option linter.unusedVariables false
namespace Go.Proofs.Ytgnepgkmjgpkeaa.Po

def letter (i : Nat) : ByteArray := ⟨[UInt8.ofNat (97 + i)].toArray⟩
def acctsOf (cs : List ByteArray) : List ByteArray := owedA :: cs.flatMap fun c => [netA ++ c, taxA ++ c]
theorem entrL_accts (g : Int) (ps : List Pt.T) : (entrL g ps).map (·.acct) = acctsOf (ps.map (·.cat)) := by
  unfold entrL acctsOf
  rw [List.map_cons]
  congr 1
  induction ps with
  | nil => rfl
  | cons p l ih =>
    rw [List.flatMap_cons, List.map_append, ih, List.map_cons, List.flatMap_cons]
    rfl
theorem accts_all : (List.range 13).all (fun k => decide ((acctsOf ((List.range k).map letter)).Nodup)) = true := by decide +kernel
theorem accts_nodup {k : Nat} (h : k ≤ 12) : (acctsOf ((List.range k).map letter)).Nodup :=
  of_decide_eq_true (List.all_eq_true.1 accts_all k (List.mem_range.2 (by omega)))
theorem entrL_len (g : Int) : ∀ ps : List Pt.T, (entrL g ps).length = 2 * ps.length + 1
  | [] => rfl
  | p :: l => by
    have ih := entrL_len g l
    unfold entrL at ih ⊢
    rw [List.length_cons] at ih ⊢
    rw [List.flatMap_cons, List.length_append, List.length_cons]
    show 2 + _ + 1 = _
    omega
theorem enter_has {c : ByteArray} {n : Int} {l : List Ba.T} (h : has c l = true) : (enter c n l).length = l.length := by
  unfold enter
  rw [List.length_set, ins_has h]
theorem enter_new {c : ByteArray} {n : Int} {l : List Ba.T} (h : has c l = false) : (enter c n l).length = l.length + 1 := by
  have := spot_le c l
  unfold enter
  rw [List.length_set, ins_new h, List.length_append, List.length_cons, List.length_take, List.length_drop]
  omega
theorem len_has : ∀ (ls b : List Ba.T), (∀ x ∈ ls, has x.acct b = true) → (goL ls b).length = b.length
  | [], b, _ => rfl
  | x :: l, b, h => by
    rw [goL, len_has l _ fun y hy => by rw [(val_enter y.acct x.acct x.amt b).2, h y (by simp [hy]), Bool.true_or], enter_has (h x (by simp))]
theorem len_new : ∀ (ls b : List Ba.T), (ls.map (·.acct)).Nodup → (∀ x ∈ ls, has x.acct b = false) → (goL ls b).length = b.length + ls.length
  | [], b, _, _ => rfl
  | x :: l, b, hn, h => by
    rw [List.map_cons, List.nodup_cons] at hn
    rw [goL, len_new l _ hn.2 fun y hy => by
      rw [(val_enter y.acct x.acct x.amt b).2, h y (by simp [hy]), Bool.false_or]
      exact decide_eq_false fun e => hn.1 (e ▸ List.mem_map.2 ⟨y, hy, rfl⟩), enter_new (h x (by simp)), List.length_cons]
    omega
theorem rowsOf_mag (p : Pt.T) : mag (rowsOf p) = p.net.natAbs + p.tax.natAbs := by
  show (-p.net).natAbs + ((-p.tax).natAbs + 0) = _
  omega
theorem flat_mag {B : Nat} : ∀ {ps : List Pt.T}, (∀ p ∈ ps, p.net.natAbs ≤ B ∧ p.tax.natAbs ≤ B) → mag (ps.flatMap rowsOf) ≤ ps.length * (2 * B)
  | [], _ => Nat.zero_le _
  | p :: l, h => by
    have h1 := h p (by simp)
    have h2 := flat_mag (ps := l) fun q hq => h q (by simp [hq])
    rw [List.flatMap_cons, mag_app, rowsOf_mag, List.length_cons, Nat.succ_mul]
    omega
/-- a book behind so many enterings of the same rows -/
structure Again (L B : List Ba.T) (t : Nat) : Prop where
  so : Sorted B
  sum : sumA B = 0
  small : mag B ≤ t * mag L
  new : t = 0 → B = []
  old : 0 < t → B.length = L.length ∧ ∀ x ∈ L, has x.acct B = true
  short : ∀ r ∈ B, Ba.Short r
theorem again_nil (L : List Ba.T) : Again L [] 0 := ⟨List.Pairwise.nil, rfl, Nat.zero_le _, fun _ => rfl, fun h => absurd h (by omega), by simp⟩
theorem again_step {L B : List Ba.T} {t : Nat} (h : Again L B t) (hn : (L.map (·.acct)).Nodup) (hs : sumA L = 0) (hL : ∀ x ∈ L, Ba.Short x) (hm : (t + 1) * mag L ≤ 4611686018427387904) :
    (entE B L = 0 ∧ entL B L = goL L B) ∧ Again L (goL L B) (t + 1) ∧ (goL L B).length = L.length := by
  have h1 := h.small
  rw [Nat.succ_mul] at hm
  have hm2 : mag B + mag L ≤ 4611686018427387904 := by omega
  have hl : (goL L B).length = L.length := by
    by_cases h0 : t = 0
    · rw [h.new h0, len_new L [] hn fun _ _ => rfl, List.length_nil, Nat.zero_add]
    · rw [len_has L B (h.old (by omega)).2, (h.old (by omega)).1]
  refine ⟨ent_small h.so hm2, ⟨goL_sorted L h.so, ?_, ?_, fun e => by omega, fun _ => ⟨hl, fun x hx => ?_⟩, goL_short L B hL h.short (goE_small L B hm2)⟩, hl⟩
  · have := goL_sum L B
    have := h.sum
    omega
  · have := goL_mag L B
    rw [Nat.succ_mul]
    omega
  · rw [(val_goL x.acct L B).2, named_mem.2 ⟨x, hx, rfl⟩, Bool.or_true]
end Go.Proofs.Ytgnepgkmjgpkeaa.Po
