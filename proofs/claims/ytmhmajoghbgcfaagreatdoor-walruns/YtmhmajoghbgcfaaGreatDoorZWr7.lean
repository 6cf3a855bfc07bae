import Derived.WalkKit
import Derived.Maps.AppendAt
import Derived.Laws.AppendOwnNone
import Derived.Laws.Rows
import Derived.RegionTactic
import Derived.SizedLaws
import Derived.Test.YtmhmajoghbgcfaaGreatDoorShelf
import Derived.Sort.OwnSortedInts
import Derived.Deep.Slices
import Derived.RangeFuncNested
import Derived.RangeFuncBound
import Derived.RangeFuncCalls
import Derived.RangeFuncLeaves
import Derived.Shelf.Abstract
import Derived.Shelf.RegionOpen
import Derived.OwnWalkIn
import Derived.TacticsInMore
import Derived.LoopNIn
import Derived.LoopIn
import Derived.Test.YtmhmajoghbgcfaaGreatDoorZWr1
import Derived.Test.YtmhmajoghbgcfaaGreatDoorZWr2
import Derived.Test.YtmhmajoghbgcfaaGreatDoorZWr3
import Derived.Test.YtmhmajoghbgcfaaGreatDoorZWr4
import Derived.Test.YtmhmajoghbgcfaaGreatDoorZWr5
import Derived.Test.YtmhmajoghbgcfaaGreatDoorZWr6
set_option linter.unusedVariables false
namespace Go.Proofs.YtmhmajoghbgcfaaGreatDoor.Wl
open Pk
def sound (h : H) : Bool := headed h && more (h.with []) h.log
theorem right_sound {h : H} (k : right h = true) : sound h = true := by
 unfold right at k
 unfold sound
 simp only [Bool.and_eq_true] at k ⊢
 exact ⟨k.1,k.2.2⟩
theorem fits_eq {a b : H} (h1 : a.term = b.term) (h2 : a.base = b.base) (h3 : a.bt = b.bt) (h4 : a.log = b.log) (e : Et.T) : fits a e = fits b e := by
 unfold fits last lastTerm
 rw [h1,h2,h3,h4]
theorem more_eq : ∀ (l : List Et.T) {a b : H},a.term = b.term → a.base = b.base → a.bt = b.bt → a.log = b.log → more a l = more b l
 | [],_,_,_,_,_,_ => rfl
 | e :: l,a,b,h1,h2,h3,h4 => by
  rw [more,more,fits_eq h1 h2 h3 h4,more_eq l (a := a.with (a.log ++ [e])) (b := b.with (b.log ++ [e])) h1 h2 h3 (by show a.log ++ [e] = b.log ++ [e]; rw [h4])]
theorem more_app : ∀ (l m : List Et.T) (h : H),more h (l ++ m) = (more h l && more (h.with (h.log ++ l)) m)
 | [],m,h => by
  rw [List.nil_append,more,Bool.true_and,List.append_nil]
  rfl
 | e :: l,m,h => by
  rw [List.cons_append,more,more,more_app l m,Bool.and_assoc]
  congr 2
  show more (h.with ((h.log ++ [e]) ++ l)) m = _
  rw [List.append_assoc]
  rfl
theorem fits_term {h : H} {e : Et.T} (k : fits h e = true) {t : Int} (ht : h.term ≤ t) (v : Int) : fits (h.vote' t v) e = true := by
 unfold fits last lastTerm within H.vote' at *
 simp only [Bool.and_eq_true,decide_eq_true_eq] at k ⊢
 obtain ⟨k1,k2,⟨k3,k4⟩,k5⟩ := k
 exact ⟨k1,k2,⟨k3,Int.le_trans k4 ht⟩,k5⟩
theorem more_term {t : Int} (v : Int) : ∀ (l : List Et.T) {h : H},h.term ≤ t → more h l = true → more (h.vote' t v) l = true
 | [],_,_,_ => rfl
 | e :: l,h,ht,k => by
  rw [more,Bool.and_eq_true] at k ⊢
  exact ⟨fits_term k.1 ht v,more_term v l (h := h.with (h.log ++ [e])) ht k.2⟩
theorem more_take {h : H} {l : List Et.T} (k : more h l = true) (n : Nat) : more h (l.take n) = true := by
 rw [← List.take_append_drop n l,more_app,Bool.and_eq_true] at k
 exact k.1
theorem more_drop {h : H} {l : List Et.T} (k : more h l = true) (n : Nat) : more (h.with (h.log ++ l.take n)) (l.drop n) = true := by
 rw [← List.take_append_drop n l,more_app,Bool.and_eq_true] at k
 exact k.2
theorem headed_top {h : H} (k : headed h = true) : (0 ≤ h.term ∧ h.term ≤ top) ∧ (-1 ≤ h.vote ∧ h.vote ≤ 6) ∧ (0 ≤ h.base ∧ h.base ≤ top) ∧ (0 ≤ h.bt ∧ h.bt ≤ h.term) ∧ (1 ≤ h.mem ∧ h.mem ≤ 127) := by
 unfold headed within at k
 simp only [Bool.and_eq_true,decide_eq_true_eq] at k
 exact ⟨k.1,k.2.1,k.2.2.1,k.2.2.2.1,k.2.2.2.2.2⟩
theorem fits_ok {h : H} {e : Et.T} (hd : h.term ≤ top) (k : fits h e = true) : (Rec.ent e).Ok := by
 unfold fits within at k
 unfold top at hd
 simp only [Bool.and_eq_true,decide_eq_true_eq] at k
 obtain ⟨_,_,⟨k1,k2⟩,⟨k3,k4⟩,k5,_⟩ := k
 have hm : (1 : Int) ≤ max 1 (lastTerm h) := Int.le_max_left _ _
 exact ⟨⟨by omega,by omega⟩,⟨by omega,by omega⟩,k5⟩
theorem take_pay {s : Sg} {r : Rec} (h : r.Ok) : take s (pay r) = step s r := by
 unfold take
 rw [parse_pay h]
 rfl
theorem ents_ok : ∀ (l : List Et.T) {h : H},h.term ≤ top → more h l = true → ∀ e ∈ l,(Rec.ent e).Ok
 | [],_,_,_,e,he => by cases he
 | x :: l,h,ht,k,e,he => by
  rw [more,Bool.and_eq_true] at k
  rcases List.mem_cons.1 he with rfl | he
  · exact fits_ok ht k.1
  · exact ents_ok l (h := h.with (h.log ++ [x])) ht k.2 e he
theorem takes_ents : ∀ (l : List Et.T) (s : Sg),s.begun = true → s.h.term ≤ top → more s.h l = true → takes s (pays (ents l)) = some (s.with (s.h.with (s.h.log ++ l)))
 | [],s,_,_,_ => by
  show some s = _
  rw [List.append_nil]
  rfl
 | e :: l,s,hb,ht,k => by
  rw [more,Bool.and_eq_true] at k
  show (take s (pay (.ent e))).bind (fun s' => takes s' (pays (ents l))) = _
  rw [take_pay (fits_ok ht k.1),show step s (.ent e) = addS s e from rfl]
  unfold addS
  rw [if_neg (by rw [hb]; simp),if_neg (by rw [k.1]; simp)]
  show takes (s.with (s.h.with (s.h.log ++ [e]))) (pays (ents l)) = _
  rw [takes_ents l (s.with (s.h.with (s.h.log ++ [e]))) hb ht k.2]
  show some (s.with (s.h.with ((s.h.log ++ [e]) ++ l))) = _
  rw [List.append_assoc]
  rfl
structure Wf (s : Sg) : Prop where
 snap : s.h.snap = .empty
 rb : s.ready = true → s.begun = true
 hd : s.begun = true → headed s.h = true
 mo : s.begun = true → more (s.h.with []) s.h.log = true
theorem wf_empty : Wf empty := ⟨rfl,fun h => (by cases h),fun h => (by cases h),fun h => (by cases h)⟩
theorem wf_step {s s' : Sg} (h : Wf s) {r : Rec} (k : step s r = some s') : Wf s' := by
 cases r with
 | beg t v b c m =>
  unfold step beginS at k
  dsimp only at k
  split at k
  · cases k
  split at k
  · cases k
  rename_i k1 k2
  cases k
  exact ⟨rfl,fun _ => rfl,fun _ => by (have := k2; simpa using this),fun _ => rfl⟩
 | ent e =>
  unfold step addS at k
  dsimp only at k
  split at k
  · cases k
  split at k
  · cases k
  rename_i k1 k2
  cases k
  have hb : s.begun = true := by simpa using k1
  refine ⟨h.snap,h.rb,fun z => h.hd z,fun z => ?_⟩
  show more (s.h.with []) (s.h.log ++ [e]) = true
  rw [more_app,Bool.and_eq_true]
  refine ⟨h.mo hb,?_⟩
  show (fits (s.h.with ([] ++ s.h.log)) e && true) = true
  rw [Bool.and_true,List.nil_append]
  have : fits s.h e = true := by simpa using k2
  exact this
 | rdy =>
  unfold step closeS at k
  dsimp only at k
  split at k
  · cases k
  split at k
  · cases k
  rename_i k1 k2
  cases k
  have hb : s.begun = true := by simpa using k1
  exact ⟨h.snap,fun _ => hb,h.hd,h.mo⟩
 | vot t v =>
  unfold step voteS at k
  dsimp only at k
  split at k
  · cases k
  split at k
  · cases k
  split at k
  · cases k
  split at k
  · cases k
  rename_i k1 k2 k3 k4
  cases k
  have hr : s.ready = true := by simpa using k1
  refine ⟨h.snap,h.rb,fun z => (Bool.not_eq_false (headed (s.h.vote' t v))).mp k4,fun z => ?_⟩
  exact more_term v _ (by show s.h.term ≤ t; omega) (h.mo (h.rb hr))
 | cut n =>
  unfold step cutS at k
  dsimp only at k
  split at k
  · cases k
  split at k
  · cases k
  rename_i k1 k2
  cases k
  have hr : s.ready = true := by simpa using k1
  refine ⟨h.snap,h.rb,fun z => h.hd z,fun z => ?_⟩
  exact more_take (h.mo (h.rb hr)) _
theorem wf_take {s s' : Sg} (h : Wf s) {p : List UInt8} (k : take s p = some s') : Wf s' := by
 unfold take at k
 cases e : parse p with
 | none => rw [e] at k; cases k
 | some r => rw [e] at k; exact wf_step h k
theorem wf_takes : ∀ (ps : List (List UInt8)) {s s' : Sg},Wf s → takes s ps = some s' → Wf s'
 | [],s,s',h,k => by cases k; exact h
 | p :: l,s,s',h,k => by
  obtain ⟨m,h1,h2⟩ := takes_cons k
  exact wf_takes l (wf_take h h1) h2
theorem pays_cat (a b : List Rec) : pays (a ++ b) = pays a ++ pays b := List.map_append
theorem beg_ok {h : H} (k : headed h = true) : (Rec.beg h.term h.vote h.base h.bt h.mem).Ok := by
 obtain ⟨h1,h2,h3,h4,h5⟩ := headed_top k
 unfold top at h1 h3
 exact ⟨⟨by omega,by omega⟩,⟨by omega,by omega⟩,⟨by omega,by omega⟩,⟨by omega,by omega⟩,⟨by omega,by omega⟩⟩
theorem take_beg {g : H} (k : headed g = true) : take empty (pay (.beg g.term g.vote g.base g.bt g.mem)) = some ⟨g.bare.with [],true,false⟩ := by
 rw [take_pay (beg_ok k)]
 show beginS empty _ = _
 unfold beginS
 rw [if_neg (by show ¬ (false = true); simp),if_neg (by show ¬ (headed (g.bare.with []) = false); rw [show headed (g.bare.with []) = headed g from rfl,k]; simp)]
 rfl
theorem sound_parts {g : H} (hs : sound g = true) : headed g = true ∧ more (g.bare.with []) g.log = true := by
 unfold sound at hs
 rw [Bool.and_eq_true] at hs
 refine ⟨hs.1,?_⟩
 rw [← hs.2]
 exact more_eq _ rfl rfl rfl rfl
theorem takes_whole {g : H} (hs : sound g = true) : takes empty (pays (whole g)) = some ⟨g.bare,true,true⟩ := by
 obtain ⟨h1,h2⟩ := sound_parts hs
 have ht := (headed_top h1).1.2
 show (take empty (pay (.beg g.term g.vote g.base g.bt g.mem))).bind (fun s' => takes s' (pays (ents g.log ++ [.rdy]))) = _
 rw [take_beg h1,pays_cat]
 show takes ⟨g.bare.with [],true,false⟩ (pays (ents g.log) ++ pays [.rdy]) = _
 rw [takes_app,takes_ents g.log ⟨g.bare.with [],true,false⟩ rfl ht h2]
 show (take ⟨g.bare,true,false⟩ (pay .rdy)).bind (fun s' => some s') = _
 rw [take_pay (r := .rdy) trivial]
 rfl
theorem ready_part {s : Sg} : ∀ (rs : List Rec) {s s' : Sg},(∀ r ∈ rs,r.Ok ∧ r ≠ .rdy) → takes s (pays rs) = some s' → s'.ready = s.ready
 | [],s,s',_,k => by cases k; rfl
 | r :: l,s,s',h,k => by
  obtain ⟨m,h1,h2⟩ := takes_cons (l := pays l) k
  rw [ready_part (s := s) l (fun x hx => h x (List.mem_cons_of_mem _ hx)) h2]
  obtain ⟨a,b⟩ := h r (List.mem_cons_self ..)
  rw [take_pay a] at h1
  cases r with
  | beg t v b c m =>
   unfold step beginS at h1
   dsimp only at h1
   split at h1
   · cases h1
   split at h1
   · cases h1
   cases h1
   rfl
  | ent e =>
   unfold step addS at h1
   dsimp only at h1
   split at h1
   · cases h1
   split at h1
   · cases h1
   cases h1
   rfl
  | rdy => exact absurd rfl b
  | vot t v =>
   unfold step voteS at h1
   dsimp only at h1
   split at h1
   · cases h1
   split at h1
   · cases h1
   split at h1
   · cases h1
   split at h1
   · cases h1
   cases h1
   rfl
  | cut n =>
   unfold step cutS at h1
   dsimp only at h1
   split at h1
   · cases h1
   split at h1
   · cases h1
   cases h1
   rfl
theorem whole_len (g : H) : (pays (whole g)).length = g.log.length + 2 := by
 unfold pays whole ents
 simp
theorem whole_part {g : H} (hs : sound g = true) {j : Nat} (hj : j < (pays (whole g)).length) {sj : Sg} (h : takes empty ((pays (whole g)).take j) = some sj) : sj.ready = false := by
 obtain ⟨h1,h2⟩ := sound_parts hs
 have e : (pays (whole g)).take j = pays ((.beg g.term g.vote g.base g.bt g.mem :: ents g.log).take j) := by
  rw [whole_len] at hj
  unfold whole pays
  rw [← List.map_take,← List.cons_append,List.take_append_of_le_length (by unfold ents; simp; omega)]
 rw [e] at h
 refine ready_part (s := empty) _ (fun r hr => ?_) h
 have hr := List.mem_of_mem_take hr
 rcases List.mem_cons.1 hr with rfl | hr
 · exact ⟨beg_ok h1,fun z => by cases z⟩
 ·
  obtain ⟨x,hx,rfl⟩ := List.mem_map.1 hr
  exact ⟨ents_ok g.log (h := g.bare.with []) (headed_top h1).1.2 h2 x hx,fun z => by cases z⟩
theorem begun_take : ∀ a b : List Et.T,a.take (begun a b) = b.take (begun a b)
 | [],b => by
  have : begun [] b = 0 := by cases b <;> rfl
  rw [this]
  rfl
 | x :: a,[] => rfl
 | x :: a,y :: b => by
  rw [begun]
  split
  ·
   rename_i h
   rw [List.take_succ_cons,List.take_succ_cons,begun_take a b]
   congr 1
   cases x
   cases y
   simp only [Et.T.mk.injEq]
   exact h
  · rfl
structure Near (s : Sg) (g : H) : Prop where
 wf : Wf s
 rdy : s.ready = true
 snd : sound g = true
 base : s.h.base = g.base
 bt : s.h.bt = g.bt
 mem : s.h.mem = g.mem
 term : s.h.term ≤ g.term
 vote : g.term = s.h.term → s.h.vote = -1 ∨ g.vote = s.h.vote
def recA (was h : H) : List Rec := if h.term ≠ was.term ∨ h.vote ≠ was.vote then [.vot h.term h.vote] else []
def recB (was h : H) : List Rec := if begun was.log h.log < was.log.length then [.cut (h.base + (begun was.log h.log : Int))] else []
theorem change_eq (was h : H) : change was h = recA was h ++ (recB was h ++ ents (h.log.drop (begun was.log h.log))) := rfl
theorem recA_len (was h : H) : (recA was h).length ≤ 1 := by unfold recA; split <;> simp
theorem recB_len (was h : H) : (recB was h).length ≤ 1 := by unfold recB; split <;> simp
section
variable {s : Sg} {g : H}
theorem Near.headed (h : Near s g) : headed (s.h.vote' g.term g.vote) = true := by
 rw [← (sound_parts h.snd).1]
 unfold Wl.headed H.vote'
 simp only [h.base,h.bt,h.mem]
theorem Near.takesA (h : Near s g) : takes s (pays (recA s.h g)) = some (s.with (s.h.vote' g.term g.vote)) := by
 unfold recA
 split
 ·
  rename_i k
  obtain ⟨h1,h2,h3,h4,h5⟩ := headed_top (sound_parts h.snd).1
  unfold top at h1
  have ok : (Rec.vot g.term g.vote).Ok := ⟨⟨by omega,by omega⟩,⟨by omega,by omega⟩⟩
  show (take s (pay (.vot g.term g.vote))).bind (fun s' => some s') = _
  rw [take_pay ok]
  show (voteS s g.term g.vote).bind _ = _
  unfold voteS
  have ht := h.term
  rw [if_neg (by rw [h.rdy]; simp),if_neg (by omega),if_neg ?_,if_neg (by rw [h.headed]; simp)]
  · rfl
  ·
   rintro ⟨z1,z2⟩
   rcases h.vote z1 with z | z
   · exact z2 z
   · exact k.elim (fun y => y z1) fun y => y z
 ·
  rename_i k
  have e1 : g.term = s.h.term := Decidable.not_not.1 fun z => k (.inl z)
  have e2 : g.vote = s.h.vote := Decidable.not_not.1 fun z => k (.inr z)
  show some s = _
  rw [e1,e2]
  rfl
theorem Near.takesB (h : Near s g) : takes (s.with (s.h.vote' g.term g.vote)) (pays (recB s.h g)) = some (s.with (g.bare.with (g.log.take (begun s.h.log g.log)))) := by
 have hle := begun_le s.h.log g.log
 have ht := begun_take s.h.log g.log
 have hs : s.h.vote' g.term g.vote = g.bare.with s.h.log := by
  unfold H.vote' H.bare H.with
  simp only [h.base,h.bt,h.mem,h.wf.snap]
 rw [hs]
 unfold recB
 split
 ·
  rename_i k
  obtain ⟨h1,h2,h3,h4,h5⟩ := headed_top (sound_parts h.snd).1
  have hfew : s.h.log.length ≤ 200 := by
   have := (more_ok _ _ (h.wf.mo (h.wf.rb h.rdy)) (Nat.zero_le _)).2
   have e : (s.h.with []).log.length = 0 := rfl
   omega
  unfold top at h3
  have ok : (Rec.cut (g.base + (begun s.h.log g.log : Int))).Ok := ⟨by omega,by omega⟩
  show (take (s.with (g.bare.with s.h.log)) (pay (.cut (g.base + (begun s.h.log g.log : Int))))).bind (fun s' => some s') = _
  rw [take_pay ok]
  show (cutS _ _).bind _ = _
  unfold cutS
  rw [if_neg (by show ¬ s.ready = false; rw [h.rdy]; simp),if_neg ?_]
  ·
   show some (s.with (g.bare.with (s.h.log.take (g.base + (begun s.h.log g.log : Int) - g.base).toNat))) = _
   rw [show (g.base + (begun s.h.log g.log : Int) - g.base).toNat = begun s.h.log g.log by omega,ht]
  ·
   show ¬ within _ g.base (g.base + (s.h.log.length : Int)) = false
   unfold within
   rw [Bool.not_eq_false,Bool.and_eq_true,decide_eq_true_eq,decide_eq_true_eq]
   omega
 ·
  rename_i k
  rw [← ht,List.take_of_length_le (by omega)]
  rfl
theorem Near.takesC (h : Near s g) (m : Nat) : takes (s.with (g.bare.with (g.log.take (begun s.h.log g.log)))) (pays (ents ((g.log.drop (begun s.h.log g.log)).take m))) = some (s.with (g.bare.with (g.log.take (begun s.h.log g.log + m)))) := by
 obtain ⟨h1,h2⟩ := sound_parts h.snd
 rw [takes_ents _ (s.with (g.bare.with (g.log.take (begun s.h.log g.log)))) (h.wf.rb h.rdy) (headed_top h1).1.2 (more_take (more_drop h2 _) m)]
 show some (s.with (g.bare.with (g.log.take (begun s.h.log g.log) ++ (g.log.drop (begun s.h.log g.log)).take m))) = _
 rw [← List.take_add]
theorem Near.all (h : Near s g) : takes s (pays (change s.h g)) = some (s.with g.bare) := by
 rw [change_eq,pays_cat,pays_cat,takes_app,h.takesA]
 show takes _ _ = _
 rw [takes_app,h.takesB]
 show takes _ _ = _
 have := h.takesC (g.log.drop (begun s.h.log g.log)).length
 rw [List.take_length] at this
 rw [this,List.take_of_length_le (by rw [List.length_drop]; omega)]
 rfl
def Part (a g x : H) : Prop := x = a ∨ x = a.vote' g.term g.vote ∨ ∃ m,m ≤ g.log.length ∧ x = g.bare.with (g.log.take m)
theorem Part.done (a g : H) : Part a g g.bare := .inr (.inr ⟨g.log.length,Nat.le_refl _,by rw [List.take_length]; rfl⟩)
theorem Near.part (h : Near s g) (j : Nat) {sj : Sg} (k : takes s ((pays (change s.h g)).take j) = some sj) : sj.ready = true ∧ Part s.h g sj.h := by
 rw [change_eq,pays_cat,pays_cat,List.take_append,List.take_append,takes_app] at k
 have la : (pays (recA s.h g)).length ≤ 1 := by unfold pays; rw [List.length_map]; exact recA_len _ _
 have lb : (pays (recB s.h g)).length ≤ 1 := by unfold pays; rw [List.length_map]; exact recB_len _ _
 by_cases ja : j < (pays (recA s.h g)).length
 ·
  rw [show j = 0 by omega] at k
  simp only [Nat.zero_sub,List.take_zero,List.append_nil,takes,Option.bind_some,Option.some.injEq] at k
  subst k
  exact ⟨h.rdy,.inl rfl⟩
 rw [List.take_of_length_le (by omega),h.takesA] at k
 change takes _ _ = _ at k
 rw [takes_app] at k
 by_cases jb : j - (pays (recA s.h g)).length < (pays (recB s.h g)).length
 ·
  rw [show j - (pays (recA s.h g)).length = 0 by omega] at k
  simp only [Nat.zero_sub,List.take_zero,takes,Option.bind_some,Option.some.injEq] at k
  subst k
  exact ⟨h.rdy,.inr (.inl rfl)⟩
 rw [List.take_of_length_le (by omega),h.takesB] at k
 change takes _ _ = _ at k
 have e : ∀ m,(pays (ents (g.log.drop (begun s.h.log g.log)))).take m = pays (ents ((g.log.drop (begun s.h.log g.log)).take m)) := fun m => by
  unfold pays ents
  rw [List.map_map,List.map_map,List.map_take]
 rw [e,h.takesC] at k
 cases k
 refine ⟨h.rdy,.inr (.inr ?_)⟩
 show ∃ m,m ≤ g.log.length ∧ g.bare.with _ = g.bare.with (g.log.take m)
 obtain ⟨m,hm⟩ : ∃ m,begun s.h.log g.log + (j - (pays (recA s.h g)).length - (pays (recB s.h g)).length) = m := ⟨_,rfl⟩
 rw [hm]
 by_cases hml : m ≤ g.log.length
 · exact ⟨m,hml,rfl⟩
 · exact ⟨g.log.length,Nat.le_refl _,by rw [List.take_of_length_le (by omega),List.take_length]⟩
end
theorem frames_size : ∀ (ps : List (List UInt8)),(∀ p ∈ ps,p.length ≤ 2000) → (frames ps).length ≤ ps.length * 2008
 | [],_ => Nat.zero_le _
 | p :: l,h => by
  rw [frames,List.length_append,frame_size,List.length_cons]
  have h1 := h p (List.mem_cons_self ..)
  have h2 := frames_size l fun q hq => h q (List.mem_cons_of_mem _ hq)
  omega
theorem Fine.payOk {ps : List (List UInt8)} (h : Fine ps) : ∀ p ∈ ps,PayOk p := fun p hp => by
 have := h.2 p hp
 exact ⟨this.1,by omega⟩
theorem change_len (a b : H) (hl : b.log.length ≤ 200) : (pays (change a b)).length ≤ 202 := by
 rw [change_eq]
 unfold pays ents
 rw [List.length_map,List.length_append,List.length_append,List.length_map,List.length_drop]
 have := recA_len a b
 have := recB_len a b
 omega
end Go.Proofs.YtmhmajoghbgcfaaGreatDoor.Wl
set_option maxRecDepth 100000
namespace Go.Proofs.YtmhmajoghbgcfaaGreatDoor.Ni
open Go.RowKit
open Mem
theorem info : (Tryz.prog.info? 3).map (fun i => (i.zero,i.size,i.bytes)) = some (some (.int .i64 0),1,8) := by kernel_rfl
def Own (w : World) (B : Nat) (v : Value) (xs : List Int) : Prop := w.ownsRow B 3 1 v xs.length (xs.map (Value.int .i64))
theorem own_nil (w : World) (B : Nat) : Own w B (.slice none 0 0) [] := ⟨rfl,.inl ⟨rfl,rfl⟩⟩
theorem cell_one (u : World) (v : Value) (t : TypeId) (j : Nat) (z : Value) (h : [v][j]? = some z) : (u.alloc (.cells #[v] t)).cell? ((⟨u.heap.size,0,none⟩ : Addr).add j) = some z := by
 rcases j with _ | j
 ·
  simp only [List.getElem?_cons_zero,Option.some.injEq] at h
  subst h
  simp [Addr.add,go_sem]
 · simp at h
theorem app {ops : Array Oper} {rest : List Oper} {o : Oper} {a : Act} {Q : Exit → Act → World → Prop} (u : World) (x : Int) (hgd : o.guard = none) (s t : Operand)
  (ho : o.op = .call { callee := .builtin .append,args := #[s,t],argTypes := #[46,46] }) (B : Nat) (v : Value) (xs : List Int) (hs : a.eval s = v) (hown : Own u B v xs)
  (hx : a.eval t = .slice (some ⟨u.heap.size,0,none⟩) 1 1) (hm : xs.length ≤ 100000) (hB : B ≤ u.heap.size)
  (h : ∀ v' w1,Own w1 B v' (xs ++ [x]) → (u.alloc (.cells #[.int .i64 x] 3)).grownBy w1 v.ownBlock → wpList Tryz.prog ops Q rest (a.put o.dst v') w1) :
  wpList Tryz.prog ops Q (o :: rest) a (u.alloc (.cells #[.int .i64 x] 3)) := by
 obtain ⟨i0,hi,hz0,hz1,hz2⟩ := info_parts info
 have hmx : maxLen = 9223372036854775807 := rfl
 refine wpList_append_own_at (w := u.alloc (.cells #[.int .i64 x] 3)) hgd s t 46 ho B 3 i0 (.int .i64 0) 1 8 Tryz.underlying46 hi hz0 hz1 hz2 rfl (by omega) v xs.length (xs.map (Value.int .i64)) hs (World.ownsRow.alloc hown _) ⟨u.heap.size,0,none⟩ 1 1 [.int .i64 x] hx rfl (cell_one u _ _) (fun z hz => by rw [List.mem_singleton.1 hz]; rfl) (by omega) (by omega) (by simp; omega) ?_
 intro v' w' h1 h2 _ h3
 refine h v' w' ?_ h2
 unfold Own
 rw [List.length_append,List.map_append]
 exact h1
variable {w u : World} {B : Nat} {v : Value} {xs : List Int}
theorem own_ge (h : Own w B v xs) : ∀ k,v.ownBlock = some k → B ≤ k := by
 intro k hk
 rcases h.2 with ⟨h',_⟩ | ⟨g,cap,cur,h',hb,_⟩
 ·
  rw [h'] at hk
  cases hk
 ·
  rw [h'] at hk
  simp only [Value.ownBlock,Option.some.injEq] at hk
  omega
structure Zs (w : World) (ao : Option Addr) (n cap : Nat) (zs : List Int) : Prop where
 len : n = zs.length
 fits : n ≤ cap
 reach : cap ≤ 9223372036854775807
 seg : zs = [] ∨ ∃ b off,ao = some ⟨b,off,none⟩ ∧ ∀ k (hk : k < zs.length),w.cell? ⟨b,off + k,none⟩ = some (.int .i64 zs[k])
theorem Zs.below {ao : Option Addr} {n cap : Nat} (h : Zs w ao n cap xs) (k : Below w.heap.size w u) : Zs u ao n cap xs := by
 refine ⟨h.len,h.fits,h.reach,?_⟩
 rcases h.seg with e | ⟨b,off,e,hc⟩
 · exact .inl e
 · exact .inr ⟨b,off,e,fun i hi => by rw [(bcell k).1 _ _ (cell_lt (hc i hi))]; exact hc i hi⟩
theorem own_zs (h : Own w B v xs) : ∃ ao cap,v = .slice ao xs.length cap ∧ Zs w ao xs.length cap xs ∧ ∀ ad,ao = some ad → B ≤ ad.block ∧ ad.block < w.heap.size := by
 rcases h.2 with ⟨h',h2⟩ | ⟨g,cap,cur,h',hb,hg,hnc,hcm,hcs,htake⟩
 ·
  have e : xs = [] := List.length_eq_zero_iff.1 h2
  subst e
  exact ⟨none,0,h',⟨rfl,Nat.le_refl _,by omega,.inl rfl⟩,fun ad z => by cases z⟩
 ·
  refine ⟨_,cap,h',⟨rfl,hnc,hcm,?_⟩,fun ad z => by cases z; exact ⟨hb,(Array.getElem?_eq_some_iff.1 hg).1⟩⟩
  refine .inr ⟨g,0,rfl,fun k hk => ?_⟩
  rw [Nat.zero_add,cell_of_row w g k _ _ _ hg]
  have h5 : (cur.toList.take (xs.length * 1))[k]? = (xs.map (Value.int .i64))[k]? := by rw [htake]
  rw [List.getElem?_take_of_lt (by omega),List.getElem?_map,List.getElem?_eq_getElem hk] at h5
  simpa using h5
theorem sort (w0 : World) (h : Own w w0.heap.size v xs) (hm : xs.length ≤ 100000) (hB : Below w0.heap.size w0 w) : Calls Tryz.prog 86 #[v] w fun e w' => e = .returned (.tuple #[]) ∧ Own w' w0.heap.size v (xs.mergeSort fun a b => decide (a ≤ b)) ∧ Below w0.heap.size w0 w' := by
 rcases h.2 with ⟨h',h2⟩ | ⟨g,cap,cur,h',hb,hg,hnc,hcm,hcs,htake⟩
 ·
  have e : xs = [] := List.length_eq_zero_iff.1 h2
  subst e
  rw [h']
  refine (Tryz.slices_Sort_int_none none 0 w).mono ?_
  rintro e w' ⟨rfl,rfl⟩
  exact ⟨rfl,by rw [List.mergeSort_nil]; exact own_nil _ _,hB⟩
 ·
  rw [h']
  rw [Nat.mul_one] at htake hcs
  refine (Tryz.slices_Sort_int g 0 cap xs w (holds_of_blockI hg htake) (Array.getElem?_eq_some_iff.1 hg).1 (by omega)).mono ?_
  rintro e w' ⟨rfl,n,os,rfl⟩
  have hl : (xs.mergeSort fun a b => decide (a ≤ b)).length = xs.length := List.length_mergeSort _
  have := ownsRow_sortedI (n := n) (os := os) hl hb hg hnc hcm (by rw [Nat.mul_one]; exact hcs)
  refine ⟨rfl,?_,hB.grown (grownBy_sortedI _) hB.size fun k e => by cases e; exact hb⟩
  unfold Own
  rw [hl]
  exact this
end Go.Proofs.YtmhmajoghbgcfaaGreatDoor.Ni
namespace Go.Proofs.YtmhmajoghbgcfaaGreatDoor.Wl
open Go.RowKit
open Mem Dk
def rmO (rd : Bool) (n : Nat) : D → List Nat → Int × D
 | d,[] => (0,d)
 | d,k :: l => if (rd && (k == n)) = true then rmO rd n d l else if (remD d (wname k)).1 ≠ 0 then remD d (wname k) else rmO rd n (remD d (wname k)).2 l
set_option maxHeartbeats 4000000 in
theorem wl_removeOthers {R : Nat → Prop} {w0 w : World} {g p n : Nat} {f : Bool} {s : Sg} {d : D} (h : Both R w0 w g p n f s d) (ao : Option Addr) (m cap : Nat) (ks : List Nat) (hI : Ni.Zs w ao m cap (ks.map fun k : Nat => (k : Int))) (hao : ∀ ad,ao = some ad → ¬ R ad.block) (hk : ∀ k ∈ ks,k < 100) (hm : ks.length ≤ 1000) :
  Calls Tryz.prog 44 #[.pointer (some ⟨g,0,none⟩),.slice ao m cap] w fun e w' => e = .returned (.int .i64 (rmO s.ready n d ks).1) ∧ Both (nw R w) w0 w' g p n f s (rmO s.ready n d ks).2 ∧ UpdQ R w w' := by
 have HI := Lib.hid hI
 have HK := Lib.hid hk
 have HA := Lib.hid hao
 have H := Lib.hid h
 have hf := hI.fits
 have hr := hI.reach
 have HN : Hid (m = ks.length) := Lib.hid (by have := hI.len; rw [List.length_map] at this; exact this)
 have hmm : m ≤ 1000 := by have := HN.out; omega
 obtain ⟨rdy,hrd⟩ : ∃ b,s.ready = b := ⟨_,rfl⟩
 have HRd := Lib.hid hrd
 rw [hrd]
 clear hI hk hao h hm hrd
 go_enter Tryz.func44,Tryz.ntmps44
 go_wp2
 go_loopw [10] (fun i wr => ∃ k : Nat,k ≤ m ∧ i = .int .i64 k ∧ ∃ dk,Hid (Both (nw R w) w0 wr g p n f s dk) ∧ Hid (UpdQ R w wr) ∧ Hid (rmO rdy n d ks = rmO rdy n dk (ks.drop k))) (fun i _ => m - (intOf i).toNat)
 case atStart => exact ⟨0,by omega,rfl,d,Lib.hid H.out.nw,Lib.hid (UpdQ.refl _ _),Lib.hid rfl⟩
 case round =>
  rename World => wz
  obtain ⟨k,hk,rfl,dk,HB,HU,HE⟩ := hrel
  by_cases hlt : k < m
  ·
   have hkl : k < ks.length := HN.out ▸ hlt
   obtain ⟨x,hx⟩ : ∃ x,ks[k] = x := ⟨_,rfl⟩
   have hx100 : x < 100 := hx ▸ HK.out _ (List.getElem_mem hkl)
   have hxc : ∃ b off,ao = some ⟨b,off,none⟩ ∧ wz.cell? ⟨b,off + k,none⟩ = some (.int .i64 (x : Int)) := by
    rcases HI.out.seg with q | ⟨b,off,q,hc⟩
    ·
     rw [List.map_eq_nil_iff] at q
     rw [q] at hkl
     simp at hkl
    ·
     have hc' := hc k (by rw [List.length_map]; exact hkl)
     rw [List.getElem_map,hx] at hc'
     exact ⟨b,off,q,(Hd.cell_same (HU.out.block b (cell_lt hc') (HA.out _ q)) _).trans hc'⟩
   obtain ⟨b,off,rfl,hc⟩ := hxc
   have HD : Hid (rmO rdy n dk (ks.drop k) = if (rdy && (x == n)) = true then rmO rdy n dk (ks.drop (k + 1)) else if (remD dk (wname x)).1 ≠ 0 then remD dk (wname x) else rmO rdy n (remD dk (wname x)).2 (ks.drop (k + 1))) := Lib.hid (by rw [List.drop_eq_getElem_cons hkl,hx]; rfl)
   obtain ⟨P,Q,hp⟩ := HB.out
   have HP := Lib.hid hp
   obtain ⟨k0,k1,_,_,hg⟩ := hp.wal.cells
   have rd := hp.wal.isReady
   rw [HRd.out] at rd
   clear hp hx
   by_cases hr0 : rdy = false
   ·
    have hr := hr0
    rw [hr] at rd
    have HD2 : Hid (rmO rdy n dk (ks.drop k) = if (remD dk (wname x)).1 ≠ 0 then remD dk (wname x) else rmO rdy n (remD dk (wname x)).2 (ks.drop (k + 1))) := Lib.hid (by rw [HD.out,if_neg (by rw [hr]; simp)])
    clear hr hr0
    obtain ⟨b2,d2,hy⟩ : ∃ b d2,remD dk (wname x) = (b,d2) := ⟨_,_,rfl⟩
    have CR2 := Lib.hid (fun y (z : Below wz.heap.size wz y) => chg_rem HP.out.dsk z (wname x))
    rw [hy] at CR2 HD2
    dsimp only at HD2
    have lz : ∀ y,Below wz.heap.size wz y → y.cell? ⟨g,0,none⟩ = some (.pointer (some ⟨p,0,none⟩)) := fun y z => ((bcell z).1 _ _ hg).trans k0
    clear hy
    go_wp2_with fail
    go_region_held3 (fun y => y.cell? ⟨g,0,none⟩ = some (.pointer (some ⟨p,0,none⟩))) (first | with_reducible assumption | (apply lz; repeat (first | with_reducible assumption | with_reducible apply Below.drew | with_reducible exact Below.refl _ _)) | fail) (first | (go_at_call 43; refine (wl_name x hx100 _).mono ?_; rintro e u ⟨rfl,hu⟩; rw [hu]; clear hu u) | (go_at_call 38; refine (CR2.out _ (by first | exact Below.refl _ _ | exact (Below.refl _ _).drew)).mono ?_; rintro e u3 hz; have hp3 := HP.out.disk hz; obtain ⟨rfl,_,_⟩ := hz; have t3 : u3.cell? ⟨g,0,none⟩ = some (.pointer (some ⟨p,0,none⟩)) := hp3.1.wal.cells.1; have HP3 := Lib.hid hp3; dsimp only; clear hp3 CR2) | fail)
    all_goals
     have HU3 : Hid (UpdQ R w u3) := Lib.hid (upd_nw ((HU.out.mono fun b z => .inl z).trans (HP3.out.2.mono HP.out.qr)))
     have HB3 : Hid (Both (nw R w) w0 u3 g p n f s d2) := Lib.hid (Both.mono ⟨_,_,HP3.out.1⟩ fun b z => z.elim id fun z => .inr (by have := HU.out.size; omega))
     clear t3 k0 k1 rd hg lz hc
     by_cases hb : b2 = 0
     ·
      subst hb
      have HE3 : Hid (rmO rdy n d ks = rmO rdy n d2 (ks.drop (k + 1))) := Lib.hid (by rw [HE.out,HD2.out,if_neg (fun z => z rfl)])
      clear HE HD HD2
      go_wp2_with fail
      go_roundw
      case rel => exact ⟨k + 1,by omega,by go_num,d2,HB3,HU3,HE3⟩
      case measure => simp [intOf]; omega
     ·
      have qb : (b2 != 0) = true := bne_iff_ne.2 hb
      have HZ : Hid (rmO rdy n d ks = (b2,d2)) := Lib.hid (by rw [HE.out,HD2.out,if_pos hb])
      clear HE HD HD2
      go_wp2_with fail
      go_ret
      refine ⟨by rw [HZ.out]; rfl,?_,HU3.out⟩
      rw [HZ.out]
      exact HB3.out
   ·
    have hr : rdy = true := by simpa using hr0
    rw [hr] at rd
    cases hq : (x == n)
    ·
     have hq' : ((x : Int) == (n : Int)) = false := beq_eq_false_iff_ne.2 (by have := beq_eq_false_iff_ne.1 hq; omega)
     have HD2 : Hid (rmO rdy n dk (ks.drop k) = if (remD dk (wname x)).1 ≠ 0 then remD dk (wname x) else rmO rdy n (remD dk (wname x)).2 (ks.drop (k + 1))) := Lib.hid (by rw [HD.out,if_neg (by rw [hr,hq]; simp)])
     clear hr hr0
     obtain ⟨b2,d2,hy⟩ : ∃ b d2,remD dk (wname x) = (b,d2) := ⟨_,_,rfl⟩
     have CR2 := Lib.hid (fun y (z : Below wz.heap.size wz y) => chg_rem HP.out.dsk z (wname x))
     rw [hy] at CR2 HD2
     dsimp only at HD2
     have lz : ∀ y,Below wz.heap.size wz y → y.cell? ⟨g,0,none⟩ = some (.pointer (some ⟨p,0,none⟩)) := fun y z => ((bcell z).1 _ _ hg).trans k0
     clear hy
     go_wp2_with fail
     go_region_held3 (fun y => y.cell? ⟨g,0,none⟩ = some (.pointer (some ⟨p,0,none⟩))) (first | with_reducible assumption | (apply lz; repeat (first | with_reducible assumption | with_reducible apply Below.drew | with_reducible exact Below.refl _ _)) | fail) (first | (go_at_call 43; refine (wl_name x hx100 _).mono ?_; rintro e u ⟨rfl,hu⟩; rw [hu]; clear hu u) | (go_at_call 38; refine (CR2.out _ (by first | exact Below.refl _ _ | exact (Below.refl _ _).drew)).mono ?_; rintro e u3 hz; have hp3 := HP.out.disk hz; obtain ⟨rfl,_,_⟩ := hz; have t3 : u3.cell? ⟨g,0,none⟩ = some (.pointer (some ⟨p,0,none⟩)) := hp3.1.wal.cells.1; have HP3 := Lib.hid hp3; dsimp only; clear hp3 CR2) | fail)
     all_goals
      have HU3 : Hid (UpdQ R w u3) := Lib.hid (upd_nw ((HU.out.mono fun b z => .inl z).trans (HP3.out.2.mono HP.out.qr)))
      have HB3 : Hid (Both (nw R w) w0 u3 g p n f s d2) := Lib.hid (Both.mono ⟨_,_,HP3.out.1⟩ fun b z => z.elim id fun z => .inr (by have := HU.out.size; omega))
      clear t3 k0 k1 rd hg lz hc
      by_cases hb : b2 = 0
      ·
       subst hb
       have HE3 : Hid (rmO rdy n d ks = rmO rdy n d2 (ks.drop (k + 1))) := Lib.hid (by rw [HE.out,HD2.out,if_neg (fun z => z rfl)])
       clear HE HD HD2
       go_wp2_with fail
       go_roundw
       case rel => exact ⟨k + 1,by omega,by go_num,d2,HB3,HU3,HE3⟩
       case measure => simp [intOf]; omega
      ·
       have qb : (b2 != 0) = true := bne_iff_ne.2 hb
       have HZ : Hid (rmO rdy n d ks = (b2,d2)) := Lib.hid (by rw [HE.out,HD2.out,if_pos hb])
       clear HE HD HD2
       go_wp2_with fail
       go_ret
       refine ⟨by rw [HZ.out]; rfl,?_,HU3.out⟩
       rw [HZ.out]
       exact HB3.out
    ·
     have hq' : ((x : Int) == (n : Int)) = true := beq_iff_eq.2 (by have := beq_iff_eq.1 hq; omega)
     have HE3 : Hid (rmO rdy n d ks = rmO rdy n dk (ks.drop (k + 1))) := Lib.hid (by rw [HE.out,HD.out,if_pos (by rw [hr,hq]; rfl)])
     clear HE HD hr hr0
     go_wp2_with fail
     go_roundw
     case rel => exact ⟨k + 1,by omega,by go_num,dk,HB,HU,HE3⟩
     case measure => simp [intOf]; omega
  ·
   obtain rfl : k = m := by omega
   have HZ : Hid (rmO rdy n d ks = (0,dk)) := Lib.hid (by rw [HE.out,List.drop_of_length_le (by have := HN.out; omega)]; rfl)
   clear HE
   go_wp2_with fail
   go_ret
   refine ⟨by rw [HZ.out]; rfl,?_,HU.out⟩
   rw [HZ.out]
   exact HB.out
end Go.Proofs.YtmhmajoghbgcfaaGreatDoor.Wl
namespace Go.Proofs.YtmhmajoghbgcfaaGreatDoor.Dk
theorem own_eq {s : ByteArray} {l : List F} (hs : Sorted l) {f : F} (h : f ∈ l) (hn : f.name = s) : has s l = true ∧ own s l = f := by
 obtain ⟨i,hi,rfl⟩ := List.getElem_of_mem h
 have h1 : has s l = true := has_iff.2 ⟨i,hi,hn⟩
 have h2 := one_name hs hi hn
 refine ⟨h1,?_⟩
 rw [own_at hs h1]
 simp only [← h2]
theorem has_mem {s : ByteArray} {l : List F} : has s l = true ↔ ∃ f ∈ l,f.name = s := by
 unfold has
 rw [List.any_eq_true]
 exact ⟨fun ⟨f,a,b⟩ => ⟨f,a,of_decide_eq_true b⟩,fun ⟨f,a,b⟩ => ⟨f,a,decide_eq_true b⟩⟩
theorem mem_del {s : ByteArray} {l : List F} (hs : Sorted l) (hh : has s l = true) (g : F) : g ∈ del s l ↔ g ∈ l ∧ g.name ≠ s := by
 have hi := spot_lt hs hh
 constructor
 ·
  intro h
  refine ⟨del_mem h,fun e => ?_⟩
  unfold del at h
  rcases List.mem_append.1 h with h | h
  ·
   obtain ⟨j,hj,rfl⟩ := List.getElem_of_mem h
   rw [List.length_take] at hj
   rw [List.getElem_take] at e
   have := one_name hs (by omega) e
   omega
  ·
   obtain ⟨j,hj,rfl⟩ := List.getElem_of_mem h
   rw [List.length_drop] at hj
   rw [List.getElem_drop] at e
   have := one_name hs (by omega) e
   omega
 ·
  rintro ⟨h,hn⟩
  obtain ⟨j,hj,rfl⟩ := List.getElem_of_mem h
  have hne : j ≠ spot s l := fun e => hn (by subst e; exact spot_name hs hh)
  unfold del
  rw [List.mem_append]
  by_cases hlt : j < spot s l
  · exact .inl (List.mem_take_iff_getElem.2 ⟨j,by omega,rfl⟩)
  ·
   refine .inr (List.mem_drop_iff_getElem.2 ⟨j - (spot s l + 1),by omega,?_⟩)
   congr 1
   omega
theorem mem_put {f : F} {l : List F} (hs : Sorted l) (g : F) : g ∈ put f l ↔ g = f ∨ (g ∈ l ∧ g.name ≠ f.name) := by
 cases h : has f.name l
 ·
  have hno : ∀ x ∈ l,x.name ≠ f.name := fun x hx e => by
   have := has_mem.2 ⟨x,hx,e⟩
   rw [h] at this
   cases this
  rw [put_ins h,List.mem_append,List.mem_append,List.mem_singleton]
  constructor
  ·
   rintro (k | k | k)
   · exact .inr ⟨List.mem_of_mem_take k,hno _ (List.mem_of_mem_take k)⟩
   · exact .inl k
   · exact .inr ⟨List.mem_of_mem_drop k,hno _ (List.mem_of_mem_drop k)⟩
  ·
   rintro (k | ⟨k,_⟩)
   · exact .inr (.inl k)
   ·
    rw [← List.take_append_drop (spot f.name l) l] at k
    rcases List.mem_append.1 k with k | k
    · exact .inl k
    · exact .inr (.inr k)
 ·
  have e : g ∈ put f l ↔ g = f ∨ g ∈ del f.name l := by
   rw [put_set hs h]
   unfold del
   rw [List.mem_append,List.mem_append,List.mem_append,List.mem_singleton]
   constructor
   ·
    rintro (k | k | k)
    · exact .inr (.inl k)
    · exact .inl k
    · exact .inr (.inr k)
   ·
    rintro (k | k | k)
    · exact .inr (.inl k)
    · exact .inl k
    · exact .inr (.inr k)
  rw [e,mem_del hs h]
theorem same_own {s : ByteArray} {l m : List F} (hl : Sorted l) (hm : Sorted m) (h : ∀ g : F,g.name = s → (g ∈ m ↔ g ∈ l)) : has s m = has s l ∧ own s m = own s l := by
 cases k : has s l
 ·
  have k2 : has s m = false := by
   rw [Bool.eq_false_iff]
   intro z
   obtain ⟨f,hf,e⟩ := has_mem.1 z
   have := has_mem.2 ⟨f,(h f e).1 hf,e⟩
   rw [k] at this
   cases this
  exact ⟨k2,by rw [own_no k2,own_no k]⟩
 ·
  have h1 := own_mem hl k
  have h2 := own_name (s := s) hl
  obtain ⟨a,b⟩ := own_eq hm ((h _ h2).2 h1) h2
  exact ⟨a,b⟩
theorem put_other {s : ByteArray} {f : F} {l : List F} (hs : Sorted l) (hn : f.name ≠ s) : has s (put f l) = has s l ∧ own s (put f l) = own s l :=
 same_own hs (put_sorted hs) fun g e => by
  rw [mem_put hs]
  constructor
  ·
   rintro (k | k)
   · exact absurd (k ▸ e) hn
   · exact k.1
  · exact fun k => .inr ⟨k,fun z => hn (z ▸ e)⟩
theorem del_other {s t : ByteArray} {l : List F} (hs : Sorted l) (hh : has t l = true) (hn : t ≠ s) : has s (del t l) = has s l ∧ own s (del t l) = own s l :=
 same_own hs (del_sorted hs) fun g e => by
  rw [mem_del hs hh]
  exact ⟨fun k => k.1,fun k => ⟨k,fun z => hn (z.symm.trans e)⟩⟩
theorem del_self {s : ByteArray} {l : List F} (hs : Sorted l) (hh : has s l = true) : has s (del s l) = false := by
 rw [Bool.eq_false_iff]
 intro z
 obtain ⟨f,hf,e⟩ := has_mem.1 z
 exact ((mem_del hs hh f).1 hf).2 e
section
variable {d : D} {s : ByteArray}
end
end Go.Proofs.YtmhmajoghbgcfaaGreatDoor.Dk
namespace Go.Proofs.YtmhmajoghbgcfaaGreatDoor.St
open Go.RowKit
open Mem
theorem info : (Tryz.prog.info? 9).map (fun i => (i.zero,i.size,i.bytes)) = some (some (.string .empty),1,16) := by kernel_rfl
def Own (w : World) (B : Nat) (v : Value) (xs : List ByteArray) : Prop := w.ownsRow B 9 1 v xs.length (xs.map Value.string)
def zeros (n : Nat) : Array Value := (List.replicate n (Value.string .empty)).toArray
theorem made (n : Nat) : madeCells (Value.string .empty).cells (n * 1) = zeros n := by
 apply Array.ext_getElem?
 intro j
 unfold madeCells zeros
 rw [Array.getElem?_map,Array.getElem?_range,List.getElem?_toArray,List.getElem?_replicate,Nat.mul_one]
 split
 ·
  simp only [Option.map_some]
  rw [show (Value.string .empty).cells.size = 1 from rfl,Nat.mod_one]
  rfl
 · rfl
theorem make_cap (n : Nat) (hn : n ≤ 1000) (u : World) : (Instr.makeSlice 33 (.int .i64 0) (.int .i64 (n : Int))).run Tryz.prog u =
  .ok (.slice (some ⟨u.heap.size,0,none⟩) 0 n) (u.alloc (.cells (zeros n) 9)) := by
 obtain ⟨i0,hi,hz0,hz1,hz2⟩ := info_parts info
 have h := run_make (P := Tryz.prog) u 33 9 i0 (.string .empty) Tryz.underlying33 hi hz0 .i64 .i64 0 (n : Int) (by omega) (by omega) (by rw [hz2]; omega) (by omega)
 rw [hz1,Int.toNat_natCast,made] at h
 exact h
theorem own_cap (u : World) (B c : Nat) (hB : B ≤ u.heap.size) (hc : c ≤ 1000) : Own (u.alloc (.cells (zeros c) 9)) B (.slice (some ⟨u.heap.size,0,none⟩) 0 c) [] :=
 ⟨rfl,.inr ⟨u.heap.size,c,zeros c,rfl,hB,heap_alloc_new u _,Nat.zero_le _,by have : maxLen = 9223372036854775807 := rfl; omega,by unfold zeros; rw [List.size_toArray,List.length_replicate]; omega,rfl⟩⟩
theorem cell_one (u : World) (v : Value) (t : TypeId) (j : Nat) (z : Value) (h : [v][j]? = some z) : (u.alloc (.cells #[v] t)).cell? ((⟨u.heap.size,0,none⟩ : Addr).add j) = some z := by
 rcases j with _ | j
 ·
  simp only [List.getElem?_cons_zero,Option.some.injEq] at h
  subst h
  simp [Addr.add,go_sem]
 · simp at h
theorem app {ops : Array Oper} {rest : List Oper} {o : Oper} {a : Act} {Q : Exit → Act → World → Prop} (u : World) (x : ByteArray) (hgd : o.guard = none) (s t : Operand)
  (ho : o.op = .call { callee := .builtin .append,args := #[s,t],argTypes := #[33,33] }) (B : Nat) (v : Value) (xs : List ByteArray) (hs : a.eval s = v) (hown : Own u B v xs)
  (hx : a.eval t = .slice (some ⟨u.heap.size,0,none⟩) 1 1) (hm : xs.length ≤ 100000) (hB : B ≤ u.heap.size)
  (h : ∀ v' w1,Own w1 B v' (xs ++ [x]) → (u.alloc (.cells #[.string x] 9)).grownBy w1 v.ownBlock → wpList Tryz.prog ops Q rest (a.put o.dst v') w1) :
  wpList Tryz.prog ops Q (o :: rest) a (u.alloc (.cells #[.string x] 9)) := by
 obtain ⟨i0,hi,hz0,hz1,hz2⟩ := info_parts info
 have hmx : maxLen = 9223372036854775807 := rfl
 refine wpList_append_own_at (w := u.alloc (.cells #[.string x] 9)) hgd s t 33 ho B 9 i0 (.string .empty) 1 16 Tryz.underlying33 hi hz0 hz1 hz2 rfl (by omega) v xs.length (xs.map Value.string) hs (World.ownsRow.alloc hown _) ⟨u.heap.size,0,none⟩ 1 1 [.string x] hx rfl (cell_one u _ _) (fun z hz => by rw [List.mem_singleton.1 hz]; rfl) (by omega) (by omega) (by simp; omega) ?_
 intro v' w' h1 h2 _ h3
 refine h v' w' ?_ h2
 unfold Own
 rw [List.length_append,List.map_append]
 exact h1
variable {w u : World} {B : Nat} {v : Value} {xs : List ByteArray}
theorem Own.below (h : Own w B v xs) (k : Below w.heap.size w u) : Own u B v xs := by
 obtain ⟨h1,h2⟩ := h
 refine ⟨h1,?_⟩
 rcases h2 with h2 | ⟨g,cap,cur,h',hb,hg,h3⟩
 · exact .inl h2
 ·
  have hl : g < w.heap.size := (Array.getElem?_eq_some_iff.1 hg).1
  exact .inr ⟨g,cap,cur,h',hb,(k.block g hl).trans hg,h3⟩
theorem own_ge (h : Own w B v xs) : ∀ k,v.ownBlock = some k → B ≤ k := by
 intro k hk
 rcases h.2 with ⟨h',_⟩ | ⟨g,cap,cur,h',hb,_⟩
 ·
  rw [h'] at hk
  cases hk
 ·
  rw [h'] at hk
  simp only [Value.ownBlock,Option.some.injEq] at hk
  omega
structure Ls (w : World) (ao : Option Addr) (n cap : Nat) (xs : List ByteArray) : Prop where
 len : n = xs.length
 fits : n ≤ cap
 reach : cap ≤ 9223372036854775807
 seg : xs = [] ∨ ∃ b off,ao = some ⟨b,off,none⟩ ∧ ∀ (k : Nat) (hk : k < xs.length),w.cell? ⟨b,off + k,none⟩ = some (.string xs[k])
theorem Ls.below {ao : Option Addr} {n cap : Nat} (h : Ls w ao n cap xs) (k : Below w.heap.size w u) : Ls u ao n cap xs := by
 refine ⟨h.len,h.fits,h.reach,?_⟩
 rcases h.seg with e | ⟨b,off,e,hc⟩
 · exact .inl e
 · exact .inr ⟨b,off,e,fun i hi => by rw [(bcell k).1 _ _ (cell_lt (hc i hi))]; exact hc i hi⟩
theorem Ls.at {ao : Option Addr} {n cap : Nat} (h : Ls w ao n cap xs) (hn : 0 < n) : ∃ b off,ao = some ⟨b,off,none⟩ := by
 rcases h.seg with e | ⟨b,off,e,hc⟩
 ·
  have := h.len
  rw [e] at this
  simp only [List.length_nil] at this
  omega
 · exact ⟨b,off,e⟩
theorem Ls.row {b off n cap : Nat} (h : Ls w (some ⟨b,off,none⟩) n cap xs) (k : Nat) (hk : k < xs.length) : w.cell? ⟨b,off + k,none⟩ = some (.string xs[k]) := by
 rcases h.seg with e | ⟨b',off',e,hc⟩
 ·
  rw [e] at hk
  cases hk
 ·
  cases e
  exact hc k hk
theorem own_ls (h : Own w B v xs) : ∃ ao cap,v = .slice ao xs.length cap ∧ Ls w ao xs.length cap xs := by
 rcases h.2 with ⟨h',h2⟩ | ⟨g,cap,cur,h',hb,hg,hnc,hcm,hcs,htake⟩
 ·
  have e : xs = [] := List.length_eq_zero_iff.1 h2
  subst e
  exact ⟨none,0,h',rfl,Nat.le_refl _,by omega,.inl rfl⟩
 ·
  refine ⟨_,cap,h',rfl,hnc,hcm,?_⟩
  refine .inr ⟨g,0,rfl,fun k hk => ?_⟩
  rw [Nat.zero_add,cell_of_row w g k _ _ _ hg]
  have h5 : (cur.toList.take (xs.length * 1))[k]? = (xs.map Value.string)[k]? := by rw [htake]
  rw [List.getElem?_take_of_lt (by omega),List.getElem?_map,List.getElem?_eq_getElem hk] at h5
  simpa using h5
end Go.Proofs.YtmhmajoghbgcfaaGreatDoor.St
namespace Go.Proofs.YtmhmajoghbgcfaaGreatDoor
open Go.RowKit
open Mem Dk
def Dk.names (fs : List F) : List ByteArray := fs.map F.name
def Dk.NamesE (w : World) (fs : List F) (e : Ending) (w' : World) : Prop := ∃ v,e = .returned v ∧ St.Own w' w.heap.size v (names fs) ∧ Below w.heap.size w w'
theorem Dk.names_take {fs : List F} {k : Nat} (h : k < fs.length) : names (fs.take (k + 1)) = names (fs.take k) ++ [fs[k].name] := by
 unfold names
 rw [List.take_succ_eq_append_getElem h,List.map_append]
 rfl
set_option maxHeartbeats 2000000 in
theorem dk_names {P : Nat → Prop} {w : World} {p : Nat} {d : D} {v : Sl} {L : Int} {rs : List Fl.T} (h : At P w p d v L rs) :
  Calls Tryz.prog 13 #[.pointer (some ⟨p,0,none⟩)] w (NamesE w d.fs) := by
 have HA := Lib.hid h
 have HL := Lib.hid h.ls
 have HBx := Lib.hid h.box
 obtain ⟨c0,c1,c2,c3⟩ := h.box.cells
 obtain ⟨n1,n2,n3,n4⟩ := h.n
 have HN := Lib.hid n4
 have HN1 := Lib.hid n1
 obtain ⟨ao,n,cap⟩ := v
 simp only at c0 n2 n3 HN HN1
 have hfew : n ≤ 1000 := by
  have h1 := h.few
  have h2 := HN1.out
  omega
 have hmk := St.make_cap n hfew w
 have c0' : (w.alloc (.cells (St.zeros n) 9)).cell? ⟨p,0,none⟩ = some (.slice ao n cap) := by
  rw [(bcell ((Below.refl w.heap.size w).alloc (Nat.le_refl _) _)).1 _ _ h.box.lt]
  exact c0
 have HO0 := Lib.hid (St.own_cap w w.heap.size n (Nat.le_refl _) hfew)
 have HB0 := Lib.hid ((Below.refl w.heap.size w).alloc (Nat.le_refl _) (.cells (St.zeros n) 9))
 clear h n1 n4
 go_enter Tryz.func13,Tryz.ntmps13
 go_wp2_with fail
 clear c0 c1 c2 c3 hmk c0'
 go_loopw [3,5,17] (fun t _ j wr => ∃ k : Nat,k ≤ n ∧ j = .int .i64 k ∧ Hid (St.Own wr w.heap.size t (names (d.fs.take k))) ∧ Hid (Below w.heap.size w wr)) (fun _ _ j _ => n - (intOf j).toNat)
 case atStart => exact ⟨0,by omega,rfl,HO0,HB0⟩
 case round =>
  rename World => wz
  obtain ⟨k,hk,rfl,HT,HB⟩ := hrel
  by_cases hlt : k < n
  ·
   obtain ⟨b,off,rfl⟩ := HL.out.at (by omega)
   have hkr : k < rs.length := HN.out ▸ hlt
   have hkf : k < d.fs.length := HA.out.each.len ▸ hkr
   have hrow := (HL.out.row k hkr).below HB.out
   have HS := Lib.hid (Dk.names_take hkf)
   have HNm := Lib.hid (HA.out.each.name k hkr)
   obtain ⟨r,hr⟩ : ∃ r,rs[k] = r := ⟨_,rfl⟩
   rw [hr] at hrow HNm
   clear hr
   obtain ⟨g0,g1,g2⟩ := hrow
   obtain ⟨W,hW,hbW,hA⟩ := Fl.boxed1 wz r
   have HBW := Lib.hid (bchain HB.out hbW)
   have HOW := Lib.hid (HT.out.below hbW)
   have hle : Hid ((names (d.fs.take k)).length ≤ 100000) := Lib.hid (by
    unfold names
    rw [List.length_map,List.length_take]
    omega)
   unfold Fl.C at hA
   obtain ⟨a0,a1,a2⟩ := hA
   clear hbW HT HB
   go_wp2_with (at_builtin; go_must (refine St.app W r.name rfl (.tmp 21) (.tmp 24) rfl w.heap.size _ (names (d.fs.take k)) rfl HOW.out rfl hle.out HBW.out.size ?_))
   intro v' w1 ho gr
   have HO1 : Hid (St.Own w1 w.heap.size v' (names (d.fs.take (k + 1)))) := Lib.hid (by rw [HS.out,← HNm.out]; exact ho)
   have HB1 : Hid (Below w.heap.size w w1) := Lib.hid ((HBW.out.alloc HBW.out.size _).grown gr (by have := HBW.out.size; simp; omega) (St.own_ge HOW.out))
   clear ho gr
   go_wp2_with fail
   go_roundw
   case rel => exact ⟨k + 1,by omega,by go_num,HO1,HB1⟩
   case measure => simp [intOf]; omega
  ·
   obtain rfl : k = n := by omega
   have HM : Hid (names (d.fs.take k) = names d.fs) := Lib.hid (by
    rw [List.take_of_length_le (by have := HN1.out; omega)])
   have HF : Hid (St.Own wz w.heap.size _ (names d.fs)) := Lib.hid (by rw [← HM.out]; exact HT.out)
   clear HT
   go_wp2_with fail
   go_ret
   exact ⟨_,rfl,HF.out,HB.out⟩
theorem s_names {P : Nat → Prop} {w0 w : World} {p : Nat} {d : D} (h : S P w0 w p d) : Calls Tryz.prog 13 #[.pointer (some ⟨p,0,none⟩)] w (NamesE w d.fs) := by
 obtain ⟨v,L,rs,k⟩ := h.dsk
 exact dk_names k
end Go.Proofs.YtmhmajoghbgcfaaGreatDoor
namespace Go.Proofs.YtmhmajoghbgcfaaGreatDoor
open Go.RowKit
open Mem Dk
namespace Dk
section
variable {d : D} {s t : ByteArray} {zs : List UInt8}
end
end Dk
section
variable {P : Nat → Prop} {w0 w u : World} {p : Nat} {d : D}
theorem Dk.S.ok (h : S P w0 w p d) : Ok d := by
 obtain ⟨v,L,rs,k⟩ := h.dsk
 exact k.ok
end
end Go.Proofs.YtmhmajoghbgcfaaGreatDoor
namespace Go.Proofs.YtmhmajoghbgcfaaGreatDoor
open Go.RowKit
open Mem Dk
namespace Dk
section
variable {d : D} {s t : ByteArray} {zs : List UInt8} {i : Nat}
variable {ks : List UInt8}
theorem tear_told (f : F) (q : Nat) (h : f.kept ≤ f.bs.length) : ∃ k,k ≤ f.bs.length - f.kept ∧ (tear f q).bs.length = f.kept + k ∧ (tear f q).bs.take f.kept = f.bs.take f.kept ∧ ∀ i,i < k → (tear f q).bs[f.kept + i]? = f.bs[f.kept + i]? ∨ (i + 1 = k ∧ ∃ y,f.bs[f.kept + i]? = some y ∧ (tear f q).bs[f.kept + i]? = some (y ^^^ 255)) := by
 have hl := tear_len f h q
 generalize hk : q % (f.bs.length - f.kept + 1) = k at hl
 by_cases hn : 0 < q % (f.bs.length - f.kept + 1) ∧ q / (f.bs.length - f.kept + 1) % 2 = 1
 ·
  rw [tear_yes h hn]
  simp only [hk]
  have hlen : (f.bs.take (f.kept + k)).length = f.kept + k := by rw [List.length_take]; omega
  have hk0 : 0 < k := hk ▸ hn.1
  refine ⟨k,by omega,?_,?_,fun i hi => ?_⟩
  ·
   unfold flip
   rw [List.length_set,hlen]
  ·
   unfold flip
   rw [hlen,List.take_set_of_le (by omega),List.take_take,Nat.min_eq_left (by omega)]
  ·
   unfold flip
   rw [hlen]
   by_cases e : i + 1 = k
   ·
    refine .inr ⟨e,f.bs[f.kept + i]'(by omega),List.getElem?_eq_getElem _,?_⟩
    have e2 : f.kept + k - 1 = f.kept + i := by omega
    rw [e2,List.getElem?_set_self (by rw [hlen]; omega)]
    have e3 : (f.bs.take (f.kept + k)).getLast? = some (f.bs[f.kept + i]'(by omega)) := by
     rw [List.getLast?_eq_getElem?,hlen,e2,List.getElem?_take_of_lt (by omega),List.getElem?_eq_getElem (by omega)]
    rw [e3]
    rfl
   ·
    refine .inl ?_
    rw [List.getElem?_set_ne (by omega),List.getElem?_take_of_lt (by omega)]
 ·
  rw [tear_no h hn]
  simp only [hk]
  refine ⟨k,by omega,by rw [List.length_take]; omega,by rw [List.take_take,Nat.min_eq_left (by omega)],fun i hi => .inl ?_⟩
  rw [List.getElem?_take_of_lt (by omega)]
theorem tear_again (b : List UInt8) (q : Nat) : tear ⟨s,b,b.length⟩ q = ⟨s,b,b.length⟩ := by
 have e : b.length - b.length + 1 = 1 := by omega
 have hn : ¬ (0 < q % (b.length - b.length + 1) ∧ q / (b.length - b.length + 1) % 2 = 1) := by
  rw [e,Nat.mod_one]
  exact fun z => absurd z.1 (Nat.lt_irrefl _)
 rw [tear_no (f := ⟨s,b,b.length⟩) (Nat.le_refl _) hn]
 simp only [e,Nat.mod_one,Nat.add_zero,List.take_length]
end
end Dk
end Go.Proofs.YtmhmajoghbgcfaaGreatDoor
namespace Go.Proofs.YtmhmajoghbgcfaaGreatDoor.Wl
open Pk Dk
theorem wname_dig : ∀ k : Fin 100,numOf (pre4 ++ (if k.val < 10 then [UInt8.ofNat (48 + k.val)] else [UInt8.ofNat (48 + k.val / 10),UInt8.ofNat (48 + k.val % 10)])) = some k.val ∧ ((pre4 ++ (if k.val < 10 then [UInt8.ofNat (48 + k.val)] else [UInt8.ofNat (48 + k.val / 10),UInt8.ofNat (48 + k.val % 10)])).all fun c => decide (33 ≤ c.toNat ∧ c.toNat ≤ 126)) = true := by decide +kernel
theorem dec_form {k : Nat} (h : k < 100) : Lib.decDigits k = if k < 10 then [UInt8.ofNat (48 + k)] else [UInt8.ofNat (48 + k / 10),UInt8.ofNat (48 + k % 10)] := by
 by_cases h1 : k < 10
 · rw [Lib.decDigits_one h1,if_pos h1]
 · rw [Lib.decDigits_two h1 h,if_neg h1]
theorem num_wname {k : Nat} (h : k < 100) : numOf (txt (wname k)) = some k := by
 show numOf (pre4 ++ Lib.decDigits k) = some k
 rw [dec_form h]
 exact (wname_dig ⟨k,h⟩).1
theorem wname_inj {j k : Nat} (hj : j < 100) (hk : k < 100) (e : wname j = wname k) : j = k := by
 have h1 := num_wname hj
 rw [e,num_wname hk] at h1
 exact (Option.some.inj h1).symm
theorem wname_ok {k : Nat} (h : k < 100) : nameOk (wname k) = true := by
 unfold nameOk
 have h2 : (txt (wname k)).all (fun c => decide (33 ≤ c.toNat ∧ c.toNat ≤ 126)) = true := by
  show (pre4 ++ Lib.decDigits k).all _ = true
  rw [dec_form h]
  exact (wname_dig ⟨k,h⟩).2
 rw [h2,Bool.and_true,decide_eq_true_eq]
 have h3 := wname_size h
 have h4 : (wname k).size = (pre4 ++ Lib.decDigits k).length := size_mk _
 rw [List.length_append] at h4
 have : pre4.length = 4 := rfl
 omega
def numsL (ns : List ByteArray) : List Nat := ns.filterMap fun s => numOf (txt s)
def numsS (ns : List ByteArray) : List Nat := (numsL ns).mergeSort fun a b => decide (a ≤ b)
def Nm (fs : List F) : Prop := ∀ f ∈ fs,∃ k,k < 100 ∧ f.name = wname k
theorem mem_numsL {fs : List F} (h : Nm fs) {k : Nat} : k ∈ numsL (names fs) ↔ k < 100 ∧ has (wname k) fs = true := by
 unfold numsL names
 rw [List.mem_filterMap]
 constructor
 ·
  rintro ⟨s,hs,e⟩
  obtain ⟨f,hf,rfl⟩ := List.mem_map.1 hs
  obtain ⟨j,hj,ej⟩ := h f hf
  rw [ej,num_wname hj] at e
  cases e
  exact ⟨hj,has_mem.2 ⟨f,hf,ej⟩⟩
 ·
  rintro ⟨hk,hh⟩
  obtain ⟨f,hf,e⟩ := has_mem.1 hh
  exact ⟨f.name,List.mem_map.2 ⟨f,hf,rfl⟩,by rw [e,num_wname hk]⟩
theorem mem_nums {fs : List F} (h : Nm fs) {k : Nat} : k ∈ numsS (names fs) ↔ k < 100 ∧ has (wname k) fs = true := by
 unfold numsS
 rw [List.mem_mergeSort]
 exact mem_numsL h
theorem nodup_numsL : ∀ fs : List F,Sorted fs → Nm fs → (numsL (names fs)).Nodup
 | [],_,_ => List.Pairwise.nil
 | f :: l,hs,h => by
  obtain ⟨k,hk,e⟩ := h f (List.mem_cons_self ..)
  have hl := List.pairwise_cons.1 hs
  have hn : Nm l := fun g hg => h g (List.mem_cons_of_mem _ hg)
  have e2 : numsL (names (f :: l)) = k :: numsL (names l) := by
   show List.filterMap _ (f.name :: names l) = _
   rw [List.filterMap_cons_some (by rw [e]; exact num_wname hk)]
   rfl
  rw [e2,List.nodup_cons]
  refine ⟨fun z => ?_,nodup_numsL l hl.2 hn⟩
  obtain ⟨_,hh⟩ := (mem_numsL hn).1 z
  obtain ⟨g,hg,eg⟩ := has_mem.1 hh
  exact lt_ne (hl.1 g hg) (e.trans eg.symm)
theorem nodup_nums {fs : List F} (hs : Sorted fs) (h : Nm fs) : (numsS (names fs)).Nodup := (List.mergeSort_perm _ _).nodup_iff.2 (nodup_numsL fs hs h)
theorem nums_rise (ns : List ByteArray) : (numsS ns).Pairwise fun a b => a ≤ b := by
 have := List.pairwise_mergeSort (le := fun a b : Nat => decide (a ≤ b)) (fun a b c h1 h2 => decide_eq_true (Nat.le_trans (of_decide_eq_true h1) (of_decide_eq_true h2))) (fun a b => by
  rcases Nat.le_total a b with h | h
  · rw [decide_eq_true h]; rfl
  · rw [decide_eq_true h,Bool.or_true]) (numsL ns)
 exact this.imp fun h => of_decide_eq_true h
def flOf (fs : List F) (n : Nat) : List UInt8 := (Dk.own (wname n) fs).bs
def findL (fs : List F) : List Nat → Nat × Sg × Bool × Nat
 | [] => (0,empty,false,0)
 | n :: l => if (read (flOf fs n)).1.ready = true then (n,(read (flOf fs n)).1,decide ((read (flOf fs n)).2 < (flOf fs n).length),(read (flOf fs n)).2) else findL fs l
theorem findL_spec {fs : List F} {n : Nat} (hr : (read (flOf fs n)).1.ready = true) : ∀ l : List Nat,(∀ m ∈ l,n < m → (read (flOf fs m)).1.ready = false) → l.Pairwise (fun a b => b ≤ a) → n ∈ l →
  findL fs l = (n,(read (flOf fs n)).1,decide ((read (flOf fs n)).2 < (flOf fs n).length),(read (flOf fs n)).2)
 | [],_,_,h => by cases h
 | m :: l,ht,hp,h => by
  rw [findL]
  by_cases e : m = n
  ·
   subst e
   rw [if_pos hr]
  ·
   have hl := List.pairwise_cons.1 hp
   have hn : n ∈ l := (List.mem_cons.1 h).resolve_left fun z => e z.symm
   have := hl.1 n hn
   rw [if_neg (by rw [ht m (List.mem_cons_self ..) (by omega)]; simp)]
   exact findL_spec hr l (fun x hx => ht x (List.mem_cons_of_mem _ hx)) hl.2 hn
structure Tells (fs : List F) (n : Nat) (s : Sg) : Prop where
 lt : n < 100
 has : Dk.has (wname n) fs = true
 rd : (read (flOf fs n)).1 = s
 rdy : s.ready = true
 top : ∀ m,n < m → m < 100 → Dk.has (wname m) fs = true → (read (flOf fs m)).1.ready = false
structure Neat (fs : List F) : Prop where
 srt : Sorted fs
 nm : Nm fs
 full : ∀ f ∈ fs,f.kept = f.bs.length
theorem Tells.find {fs : List F} {n : Nat} {s : Sg} (h : Tells fs n s) (k : Neat fs) : findL fs (numsS (names fs)).reverse = (n,s,decide ((read (flOf fs n)).2 < (flOf fs n).length),(read (flOf fs n)).2) := by
 have := findL_spec (fs := fs) (n := n) (by rw [h.rd]; exact h.rdy) (numsS (names fs)).reverse (fun m hm hn => by
  have := (mem_nums k.nm).1 (List.mem_reverse.1 hm)
  exact h.top m hn this.1 this.2) (List.pairwise_reverse.2 (nums_rise _)) (List.mem_reverse.2 ((mem_nums k.nm).2 ⟨h.lt,h.has⟩))
 rw [h.rd] at this
 exact this
theorem Tells.sub {fs fs' : List F} {n : Nat} {s : Sg} (h : Tells fs n s) (hs : Sorted fs) (hs' : Sorted fs') (sub : ∀ f ∈ fs',f ∈ fs) (hh : Dk.has (wname n) fs' = true) : Tells fs' n s := by
 have e : ∀ m,Dk.has (wname m) fs' = true → Dk.has (wname m) fs = true ∧ flOf fs' m = flOf fs m := fun m hm => by
  have h1 := own_mem hs' hm
  have h2 := own_eq hs (sub _ h1) (own_name hs')
  exact ⟨h2.1,by unfold flOf; rw [h2.2]⟩
 refine ⟨h.lt,hh,by rw [(e n hh).2]; exact h.rd,h.rdy,fun m h1 h2 h3 => ?_⟩
 rw [(e m h3).2]
 exact h.top m h1 h2 (e m h3).1
theorem Tells.put {fs : List F} {n : Nat} {s : Sg} (h : Tells fs n s) (hs : Sorted fs) (bs : List UInt8) (k : Nat) (hb : (read bs).1 = s) : Tells (put ⟨wname n,bs,k⟩ fs) n s := by
 obtain ⟨_,h1,h2⟩ := put_spot (f := ⟨wname n,bs,k⟩) hs
 refine ⟨h.lt,h1,?_,h.rdy,fun m k1 k2 k3 => ?_⟩
 ·
  unfold flOf
  rw [show Dk.own (wname n) (Dk.put ⟨wname n,bs,k⟩ fs) = ⟨wname n,bs,k⟩ from h2]
  exact hb
 ·
  have hne : wname n ≠ wname m := fun z => by have := wname_inj h.lt k2 z; omega
  obtain ⟨a,b⟩ := put_other (s := wname m) (f := ⟨wname n,bs,k⟩) hs hne
  unfold flOf
  rw [b]
  exact h.top m k1 k2 (a ▸ k3)
theorem Neat.put {fs : List F} (h : Neat fs) {n : Nat} (hn : n < 100) (bs : List UInt8) : Neat (put ⟨wname n,bs,bs.length⟩ fs) :=
 ⟨put_sorted h.srt,fun g hg => (put_mem hg).elim (fun e => ⟨n,hn,by rw [e]⟩) (h.nm g),fun g hg => (put_mem hg).elim (fun e => by rw [e]) (h.full g)⟩
theorem Neat.sub {fs fs' : List F} (h : Neat fs) (hs : Sorted fs') (sub : ∀ f ∈ fs',f ∈ fs) : Neat fs' := ⟨hs,fun g hg => h.nm g (sub g hg),fun g hg => h.full g (sub g hg)⟩
theorem rem_cases (d : D) (t : ByteArray) : ((remD d t).1 ≠ 0 ∧ (remD d t).2.fs = d.fs) ∨ ((remD d t).1 = 0 ∧ Dk.has t d.fs = true ∧ (remD d t).2 = with' d (del t d.fs)) := by
 unfold remD
 split
 · exact .inl ⟨fun z => (by cases z),rfl⟩
 split
 · exact .inl ⟨fun z => (by cases z),rfl⟩
 split
 · exact .inl ⟨fun z => (by cases z),rfl⟩
 rename_i _ h _
 exact .inr ⟨rfl,by simpa using h,rfl⟩
theorem del_len_le (t : ByteArray) (l : List F) : (del t l).length ≤ l.length := by
 unfold del
 rw [List.length_append,List.length_take,List.length_drop]
 omega
theorem rem_power {d : D} {t : ByteArray} (h1 : d.off = false) (h2 : d.left = -1) (h3 : Dk.has t d.fs = true) : remD d t = (0,⟨del t d.fs,false,-1⟩) := by
 unfold remD
 rw [if_neg (by rw [h1]; simp),if_neg (by rw [h3]; simp),if_neg (by rw [h2]; decide)]
 unfold with'
 rw [h1,h2]
 rfl
theorem rmO_sub {n : Nat} (hn : n < 100) : ∀ (ks : List Nat) (d : D),(∀ k ∈ ks,k < 100) → Sorted d.fs → Sorted (rmO true n d ks).2.fs ∧ (∀ f ∈ (rmO true n d ks).2.fs,f ∈ d.fs) ∧ (Dk.has (wname n) d.fs = true → Dk.has (wname n) (rmO true n d ks).2.fs = true) ∧ (rmO true n d ks).2.fs.length ≤ d.fs.length ∧
  ((rmO true n d ks).1 = 0 → ∀ k ∈ ks,k ≠ n → Dk.has (wname k) (rmO true n d ks).2.fs = false)
 | [],d,_,hs => ⟨hs,fun f h => h,fun h => h,Nat.le_refl _,fun _ k hk => (by cases hk)⟩
 | m :: l,d,hk,hs => by
  have hl : ∀ k ∈ l,k < 100 := fun k z => hk k (List.mem_cons_of_mem _ z)
  have hm := hk m (List.mem_cons_self ..)
  rw [rmO]
  by_cases e : (true && (m == n)) = true
  ·
   rw [if_pos e]
   have e2 : m = n := by simpa using e
   obtain ⟨a,b,c,c2,f⟩ := rmO_sub hn l d hl hs
   refine ⟨a,b,c,c2,fun z k hk2 hne => ?_⟩
   rcases List.mem_cons.1 hk2 with rfl | hk2
   · exact absurd e2 hne
   · exact f z k hk2 hne
  ·
   rw [if_neg e]
   have e2 : m ≠ n := by simpa using e
   rcases rem_cases d (wname m) with ⟨r1,r2⟩ | ⟨r1,r2,r3⟩
   ·
    rw [if_pos r1,r2]
    exact ⟨hs,fun f h => h,fun h => h,Nat.le_refl _,fun z => absurd z r1⟩
   ·
    rw [if_neg (fun z => z r1),r3]
    have hs2 : Sorted (with' d (del (wname m) d.fs)).fs := del_sorted hs
    obtain ⟨a,b,c,c2,f⟩ := rmO_sub hn l (with' d (del (wname m) d.fs)) hl hs2
    have hne : wname m ≠ wname n := fun z => e2 (wname_inj hm hn z)
    refine ⟨a,fun g hg => del_mem (b g hg),fun z => c (by rw [← (del_other hs r2 hne).1] at z; exact z),Nat.le_trans c2 (del_len_le _ _),fun z k hk2 hk3 => ?_⟩
    rcases List.mem_cons.1 hk2 with rfl | hk2
    ·
     rw [Bool.eq_false_iff]
     intro y
     obtain ⟨g,hg,eg⟩ := has_mem.1 y
     have h8 := del_self hs r2
     have h9 := has_mem.2 ⟨g,(b g hg : g ∈ del _ d.fs),eg⟩
     exact absurd (h9.symm.trans h8) (by simp)
    · exact f z k hk2 hk3
theorem rmO_power {n : Nat} : ∀ (ks : List Nat) (d : D),(∀ k ∈ ks,k < 100) → Sorted d.fs → ks.Nodup → (∀ k ∈ ks,k ≠ n → Dk.has (wname k) d.fs = true) → d.off = false → d.left = -1 → (rmO true n d ks).1 = 0 ∧ (rmO true n d ks).2.off = false ∧ (rmO true n d ks).2.left = -1
 | [],d,_,_,_,_,h1,h2 => ⟨rfl,h1,h2⟩
 | m :: l,d,hk,hs,hd,hh,h1,h2 => by
  have hl : ∀ k ∈ l,k < 100 := fun k z => hk k (List.mem_cons_of_mem _ z)
  have hm := hk m (List.mem_cons_self ..)
  obtain ⟨d1,d2⟩ := List.nodup_cons.1 hd
  rw [rmO]
  by_cases e : (true && (m == n)) = true
  ·
   rw [if_pos e]
   exact rmO_power l d hl hs d2 (fun k z => hh k (List.mem_cons_of_mem _ z)) h1 h2
  ·
   have e2 : m ≠ n := by simpa using e
   have hm2 := hh m (List.mem_cons_self ..) e2
   rw [if_neg e,rem_power h1 h2 hm2,if_neg (fun z => z rfl)]
   refine rmO_power l ⟨del (wname m) d.fs,false,-1⟩ hl (del_sorted hs) d2 (fun k z z2 => ?_) rfl rfl
   have hne : wname m ≠ wname k := fun y => d1 (wname_inj hm (hl k z) y ▸ z)
   show Dk.has (wname k) (del (wname m) d.fs) = true
   rw [(del_other hs hm2 hne).1]
   exact hh k (List.mem_cons_of_mem _ z) z2
def openS (d : D) : Int × Nat × Sg × D :=
 let x := findL d.fs (numsS (names d.fs)).reverse
 let c := if x.2.2.1 = true then cutD d (wname x.1) (x.2.2.2 : Int) else (0,d)
 if c.1 ≠ 0 then (c.1,x.1,x.2.1,c.2) else
 let r := rmO x.2.1.ready x.1 c.2 (numsS (names d.fs))
 if r.1 ≠ 0 then (r.1,x.1,x.2.1,r.2) else
 if x.2.1.ready = true then ((syncD r.2 (wname x.1)).1,x.1,x.2.1,(syncD r.2 (wname x.1)).2) else (0,x.1,x.2.1,r.2)
def One (fs : List F) (n : Nat) (s : Sg) : Prop := ∃ bs,fs = [⟨wname n,bs,bs.length⟩] ∧ read bs = (s,bs.length)
theorem only {l : List F} (hs : Sorted l) {f : F} (hf : f ∈ l) (h : ∀ g ∈ l,g.name = f.name) : l = [f] := by
 match l,hs,hf,h with
 | [],_,hf,_ => cases hf
 | [x],_,hf,_ => rw [List.mem_singleton.1 hf]
 | x :: y :: t,hs,hf,h =>
  have h1 := (List.pairwise_cons.1 hs).1 y (List.mem_cons_self ..)
  exact absurd ((h x (List.mem_cons_self ..)).trans (h y (List.mem_cons_of_mem _ (List.mem_cons_self ..))).symm) (lt_ne h1)
theorem sync_cases (d : D) (t : ByteArray) : ((syncD d t).1 ≠ 0 ∧ (syncD d t).2.fs = d.fs) ∨ ((syncD d t).1 = 0 ∧ Dk.has t d.fs = true ∧ (syncD d t).2 = with' d (put ⟨t,(Dk.own t d.fs).bs,(Dk.own t d.fs).bs.length⟩ d.fs)) := by
 unfold syncD
 split
 · exact .inl ⟨fun z => (by cases z),rfl⟩
 split
 · exact .inl ⟨fun z => (by cases z),rfl⟩
 split
 · exact .inl ⟨fun z => (by cases z),rfl⟩
 rename_i _ h _
 exact .inr ⟨rfl,by simpa using h,rfl⟩
theorem sync_power {d : D} {t : ByteArray} (h1 : d.off = false) (h2 : d.left = -1) (h3 : Dk.has t d.fs = true) : (syncD d t).1 = 0 ∧ (syncD d t).2.off = false ∧ (syncD d t).2.left = -1 := by
 unfold syncD
 rw [if_neg (by rw [h1]; simp),if_neg (by rw [h3]; simp),if_neg (by rw [h2]; decide)]
 exact ⟨rfl,h1,by show dec d.left = -1; rw [h2]; rfl⟩
theorem cut_cases (d : D) (t : ByteArray) (n : Int) : ((cutD d t n).1 ≠ 0 ∧ (cutD d t n).2.fs = d.fs) ∨ ((cutD d t n).1 = 0 ∧ Dk.has t d.fs = true ∧ (cutD d t n).2 = with' d (put ⟨t,(Dk.own t d.fs).bs.take n.toNat,min (Dk.own t d.fs).kept n.toNat⟩ d.fs)) := by
 unfold cutD
 split
 · exact .inl ⟨fun z => (by cases z),rfl⟩
 split
 · exact .inl ⟨fun z => (by cases z),rfl⟩
 split
 · exact .inl ⟨fun z => (by cases z),rfl⟩
 split
 · exact .inl ⟨fun z => (by cases z),rfl⟩
 rename_i _ h _ _
 exact .inr ⟨rfl,by simpa using h,rfl⟩
theorem cut_power {d : D} {t : ByteArray} {n : Nat} (h1 : d.off = false) (h2 : d.left = -1) (h3 : Dk.has t d.fs = true) (h4 : n ≤ (Dk.own t d.fs).bs.length) : (cutD d t n).1 = 0 ∧ (cutD d t n).2.off = false ∧ (cutD d t n).2.left = -1 := by
 unfold cutD
 rw [if_neg (by rw [h1]; simp),if_neg (by rw [h3]; simp),if_neg (by omega),if_neg (by rw [h2]; decide)]
 exact ⟨rfl,h1,by show dec d.left = -1; rw [h2]; rfl⟩
theorem read_cut (bs : List UInt8) : (read bs).2 ≤ bs.length ∧ read (bs.take (read bs).2) = read bs := by
 obtain ⟨ps,h1,h2,h3,h4,h5⟩ := rd_split _ bs empty (Nat.le_refl _)
 rw [← read_rd] at h2 h3 h4 h5
 have hl := congrArg List.length h4
 rw [List.length_append,List.length_drop] at hl
 refine ⟨by omega,?_⟩
 obtain ⟨Y,hY⟩ : ∃ Y,bs.drop (read bs).2 = Y := ⟨_,rfl⟩
 rw [hY] at h4
 have e : bs.take (read bs).2 = frames ps := by
  have := List.take_left' (l₁ := frames ps) (l₂ := Y) rfl
  rw [← h4,h3] at this
  exact this
 rw [e,read_rd,rd_all h1 h2,h3]
theorem open_tells {d : D} {n : Nat} {s : Sg} (hT : Tells d.fs n s) (hN : Neat d.fs) :
  ∃ e d',openS d = (e,n,s,d') ∧ Neat d'.fs ∧ Tells d'.fs n s ∧ d'.fs.length ≤ d.fs.length ∧ (e = 0 → One d'.fs n s ∧ (flOf d'.fs n).length ≤ (flOf d.fs n).length) ∧ (∀ m,(flOf d'.fs m).length ≤ (flOf d.fs m).length) ∧ (d.off = false → d.left = -1 → e = 0 ∧ d'.off = false ∧ d'.left = -1) := by
 have hks : ∀ k ∈ numsS (names d.fs),k < 100 := fun k hk => ((mem_nums hN.nm).1 hk).1
 obtain ⟨c1,c2⟩ := read_cut (flOf d.fs n)
 obtain ⟨c,hc⟩ : ∃ c,(if decide ((read (flOf d.fs n)).2 < (flOf d.fs n).length) = true then cutD d (wname n) ((read (flOf d.fs n)).2 : Int) else (0,d)) = c := ⟨_,rfl⟩
 have hcut : Neat c.2.fs ∧ Tells c.2.fs n s ∧ c.2.fs.length ≤ d.fs.length ∧ (∀ m,(flOf c.2.fs m).length ≤ (flOf d.fs m).length) ∧ (c.1 = 0 → read (flOf c.2.fs n) = (s,(flOf c.2.fs n).length)) ∧ (∀ k,Dk.has (wname k) c.2.fs = Dk.has (wname k) d.fs ∨ 100 ≤ k) ∧ (d.off = false → d.left = -1 → c.1 = 0 ∧ c.2.off = false ∧ c.2.left = -1) := by
  rw [← hc]
  by_cases hlt : (read (flOf d.fs n)).2 < (flOf d.fs n).length
  ·
   rw [if_pos (decide_eq_true hlt)]
   rcases cut_cases d (wname n) ((read (flOf d.fs n)).2 : Int) with ⟨r1,r2⟩ | ⟨r1,r2,r3⟩
   ·
    rw [r2]
    exact ⟨hN,hT,Nat.le_refl _,fun m => Nat.le_refl _,fun z => absurd z r1,fun k => .inl rfl,fun z1 z2 => cut_power z1 z2 hT.has c1⟩
   ·
    have hk := hN.full _ (own_mem hN.srt hT.has)
    have ebs : (⟨wname n,(Dk.own (wname n) d.fs).bs.take ((read (flOf d.fs n)).2 : Int).toNat,min (Dk.own (wname n) d.fs).kept ((read (flOf d.fs n)).2 : Int).toNat⟩ : F) = ⟨wname n,(flOf d.fs n).take (read (flOf d.fs n)).2,((flOf d.fs n).take (read (flOf d.fs n)).2).length⟩ := by
     rw [hk,Int.toNat_natCast,List.length_take,Nat.min_comm]
     rfl
    have e3 : (cutD d (wname n) ((read (flOf d.fs n)).2 : Int)).2.fs = put ⟨wname n,(flOf d.fs n).take (read (flOf d.fs n)).2,((flOf d.fs n).take (read (flOf d.fs n)).2).length⟩ d.fs := by
     rw [r3,ebs]
     rfl
    obtain ⟨_,p1,p2⟩ := put_spot (f := ⟨wname n,(flOf d.fs n).take (read (flOf d.fs n)).2,((flOf d.fs n).take (read (flOf d.fs n)).2).length⟩) hN.srt
    have e4 : flOf (cutD d (wname n) ((read (flOf d.fs n)).2 : Int)).2.fs n = (flOf d.fs n).take (read (flOf d.fs n)).2 := by
     unfold flOf at e3 ⊢
     rw [e3]
     exact congrArg F.bs p2
    have e5 : ((flOf d.fs n).take (read (flOf d.fs n)).2).length = (read (flOf d.fs n)).2 := by rw [List.length_take]; omega
    refine ⟨by rw [e3]; exact hN.put hT.lt _,by rw [e3]; exact hT.put hN.srt _ _ (by rw [c2]; exact hT.rd),?_,fun m => ?_,fun _ => ?_,fun k => ?_,fun z1 z2 => cut_power z1 z2 hT.has c1⟩
    ·
     rw [e3,put_len_has (f := ⟨wname n,_,_⟩) hT.has]
     exact Nat.le_refl _
    ·
     by_cases em : wname n = wname m
     ·
      have e6 : flOf (cutD d (wname n) ((read (flOf d.fs n)).2 : Int)).2.fs m = flOf (cutD d (wname n) ((read (flOf d.fs n)).2 : Int)).2.fs n := by unfold flOf; rw [em]
      have e7 : flOf d.fs m = flOf d.fs n := by unfold flOf; rw [em]
      rw [e6,e4,e7,e5]
      exact c1
     ·
      have := (put_other (s := wname m) (f := ⟨wname n,(flOf d.fs n).take (read (flOf d.fs n)).2,((flOf d.fs n).take (read (flOf d.fs n)).2).length⟩) hN.srt em).2
      have e6 : flOf (cutD d (wname n) ((read (flOf d.fs n)).2 : Int)).2.fs m = flOf d.fs m := by
       rw [e3]
       exact congrArg F.bs this
      rw [e6]
      exact Nat.le_refl _
    ·
     rw [e4,c2,e5]
     exact Prod.ext hT.rd rfl
    ·
     by_cases hk100 : k < 100
     ·
      refine .inl ?_
      rw [e3]
      by_cases em : wname n = wname k
      ·
       rw [← em,hT.has]
       exact p1
      · exact (put_other (s := wname k) (f := ⟨wname n,_,_⟩) hN.srt em).1
     · exact .inr (by omega)
  ·
   rw [if_neg (by rw [decide_eq_true_eq]; exact hlt)]
   exact ⟨hN,hT,Nat.le_refl _,fun m => Nat.le_refl _,fun _ => Prod.ext hT.rd (by show (read (flOf d.fs n)).2 = (flOf d.fs n).length; omega),fun k => .inl rfl,fun z1 z2 => ⟨rfl,z1,z2⟩⟩
 obtain ⟨k1,k2,k3,k4,k5,k6,k7⟩ := hcut
 have hfind := hT.find hN
 by_cases ec : c.1 ≠ 0
 ·
  refine ⟨c.1,c.2,?_,k1,k2,k3,fun z => absurd z ec,k4,k7⟩
  unfold openS
  rw [hfind]
  dsimp only
  rw [hc,if_pos ec]
 have ec0 : c.1 = 0 := Decidable.not_not.1 ec
 obtain ⟨r,hr⟩ : ∃ r,rmO true n c.2 (numsS (names d.fs)) = r := ⟨_,rfl⟩
 obtain ⟨a1,a2,a3,a3l,a4⟩ := rmO_sub hT.lt (numsS (names d.fs)) c.2 hks k1.srt
 have a5 := rmO_power (n := n) (numsS (names d.fs)) c.2 hks k1.srt (nodup_nums hN.srt hN.nm) (fun k hk _ => by
  have := (mem_nums hN.nm).1 hk
  exact ((k6 k).resolve_right (by omega)).trans this.2)
 rw [hr] at a1 a2 a3 a3l a4 a5
 have n1 := k1.sub a1 a2
 have t1 := k2.sub k1.srt a1 a2 (a3 k2.has)
 have f1 : ∀ m,(flOf r.2.fs m).length ≤ (flOf c.2.fs m).length := fun m => by
  by_cases hm : Dk.has (wname m) r.2.fs = true
  ·
   have h1 := own_mem a1 hm
   have h2 := own_eq k1.srt (a2 _ h1) (own_name a1)
   unfold flOf
   rw [h2.2]
   exact Nat.le_refl _
  ·
   have : flOf r.2.fs m = [] := by
    unfold flOf
    rw [own_no (by simpa using hm)]
   rw [this]
   exact Nat.zero_le _
 by_cases er : r.1 ≠ 0
 ·
  refine ⟨r.1,r.2,?_,n1,t1,Nat.le_trans a3l k3,fun z => absurd z er,fun m => Nat.le_trans (f1 m) (k4 m),fun z1 z2 => ?_⟩
  ·
   unfold openS
   rw [hfind]
   dsimp only
   rw [hc,if_neg ec,hT.rdy,hr,if_pos er]
  ·
   obtain ⟨y1,y2,y3⟩ := k7 z1 z2
   exact absurd (a5 y2 y3).1 er
 have er0 : r.1 = 0 := Decidable.not_not.1 er
 have hone : One r.2.fs n s := by
  have hm := own_mem a1 t1.has
  have hall : ∀ g ∈ r.2.fs,g.name = (Dk.own (wname n) r.2.fs).name := fun g hg => by
   rw [own_name a1]
   obtain ⟨k,hk,ek⟩ := n1.nm g hg
   by_cases e : k = n
   · rw [ek,e]
   ·
    exfalso
    have h1 : Dk.has (wname k) c.2.fs = true := has_mem.2 ⟨g,a2 g hg,ek⟩
    have h2 : k ∈ numsS (names d.fs) := (mem_nums hN.nm).2 ⟨hk,((k6 k).resolve_right (by omega)).symm.trans h1⟩
    have h3 := a4 er0 k h2 e
    rw [has_mem.2 ⟨g,hg,ek⟩] at h3
    cases h3
  have h1 := only a1 hm hall
  have h2 := n1.full _ hm
  have h3 := own_name (s := wname n) a1
  have h5 : flOf r.2.fs n = flOf c.2.fs n := by
   have h2 := own_eq k1.srt (a2 _ hm) (own_name a1)
   unfold flOf
   rw [h2.2]
  have h4 := k5 ec0
  rw [← h5] at h4
  refine ⟨flOf r.2.fs n,?_,h4⟩
  have e8 : ∀ f : F,f.name = wname n → f.kept = f.bs.length → f = ⟨wname n,f.bs,f.bs.length⟩ := fun f a b => by
   obtain ⟨x,y,z⟩ := f
   dsimp only at a b
   rw [a,b]
  have e9 := e8 _ h3 h2
  exact h1.trans (congrArg (fun f => [f]) e9)
 obtain ⟨bs,ho,hrd⟩ := hone
 have hopen : openS d = ((syncD r.2 (wname n)).1,n,s,(syncD r.2 (wname n)).2) := by
  unfold openS
  rw [hfind]
  dsimp only
  rw [hc,if_neg ec,hT.rdy,hr,if_neg er,if_pos rfl]
 have hsy : (syncD r.2 (wname n)).2.fs = r.2.fs := by
  rcases sync_cases r.2 (wname n) with ⟨_,y⟩ | ⟨_,_,y⟩
  · exact y
  ·
   rw [y,ho]
   show Dk.put _ [_] = _
   rw [one_own,one_put]
 refine ⟨_,_,hopen,by rw [hsy]; exact n1,by rw [hsy]; exact t1,by rw [hsy]; exact Nat.le_trans a3l k3,fun _ => ⟨by rw [hsy]; exact ⟨bs,ho,hrd⟩,by rw [hsy]; exact Nat.le_trans (f1 n) (k4 n)⟩,fun m => by rw [hsy]; exact Nat.le_trans (f1 m) (k4 m),fun z1 z2 => ?_⟩
 obtain ⟨y1,y2,y3⟩ := k7 z1 z2
 obtain ⟨_,y5,y6⟩ := a5 y2 y3
 exact sync_power y5 y6 t1.has
end Go.Proofs.YtmhmajoghbgcfaaGreatDoor.Wl
namespace Go.Proofs.YtmhmajoghbgcfaaGreatDoor.Wl
open Go.RowKit
open Mem Dk
def numsI (xs : List ByteArray) : List Int := (numsL xs).map fun k : Nat => (k : Int)
theorem numsI_take {xs : List ByteArray} {k : Nat} (h : k < xs.length) : numsI (xs.take (k + 1)) = numsI (xs.take k) ++ ((numOf (txt xs[k])).map fun n : Nat => (n : Int)).toList := by
 unfold numsI numsL
 rw [List.take_succ_eq_append_getElem h,List.filterMap_append,List.map_append]
 congr 1
 cases hq : numOf (txt xs[k]) with
 | none =>
  rw [List.filterMap_cons_none (f := fun s => numOf (txt s)) hq]
  rfl
 | some j =>
  rw [List.filterMap_cons_some (f := fun s => numOf (txt s)) hq]
  rfl
theorem numsI_len (xs : List ByteArray) : (numsI xs).length ≤ xs.length := by
 unfold numsI numsL
 rw [List.length_map]
 exact List.length_filterMap_le _ _
theorem numsI_sort (xs : List ByteArray) : ((numsI xs).mergeSort fun a b => decide (a ≤ b)) = (numsS xs).map fun k : Nat => (k : Int) := by
 unfold numsI numsS
 rw [List.map_mergeSort (r := fun a b : Nat => decide (a ≤ b)) (s := fun a b : Int => decide (a ≤ b)) (f := fun k : Nat => (k : Int))]
 intro a _ b _
 simp
def NumsE (w : World) (xs : List ByteArray) (e : Ending) (w' : World) : Prop := ∃ v,e = .returned v ∧ Ni.Own w' w.heap.size v ((numsS xs).map fun k : Nat => (k : Int)) ∧ Below w.heap.size w w'
set_option maxHeartbeats 4000000 in
theorem wl_numbers (ao : Option Addr) (n cap : Nat) (xs : List ByteArray) (w : World) (hL : St.Ls w ao n cap xs) (hs : ∀ x ∈ xs,x.size ≤ 140737488355328) (hn : n ≤ 1000) :
  Calls Tryz.prog 39 #[.slice ao n cap] w (NumsE w xs) := by
 have HL := Lib.hid hL
 have HS := Lib.hid hs
 have HN := Lib.hid hL.len
 have h1 := hL.fits
 have h2 := hL.reach
 clear hL hs
 go_enter Tryz.func39,Tryz.ntmps39
 go_wp2
 go_loopw [3,5,6,7,10] (fun t _ _ _ i wr => ∃ k : Nat,k ≤ n ∧ i = .int .i64 k ∧ Hid (Ni.Own wr w.heap.size t (numsI (xs.take k))) ∧ Hid (Below w.heap.size w wr)) (fun _ _ _ _ i _ => n - (intOf i).toNat)
 case atStart => exact ⟨0,by omega,rfl,Lib.hid (Ni.own_nil _ _),Lib.hid (Below.refl _ _)⟩
 case round =>
  rename World => wz
  obtain ⟨k,hk,rfl,HT,HB⟩ := hrel
  by_cases hlt : k < n
  ·
   have hkl : k < xs.length := HN.out ▸ hlt
   obtain ⟨b,off,rfl⟩ := HL.out.at (by omega)
   have hrow := (HL.out.below HB.out).row k hkl
   have HK := Lib.hid (numsI_take hkl)
   have hxs := HS.out _ (List.getElem_mem hkl)
   obtain ⟨x,hx⟩ : ∃ x,xs[k] = x := ⟨_,rfl⟩
   rw [hx] at hrow HK hxs
   have CN := Lib.hid (wl_number x wz hxs)
   have hle : Hid ((numsI (xs.take k)).length ≤ 100000) := Lib.hid (by
    have := numsI_len (xs.take k)
    rw [List.length_take] at this
    omega)
   clear hx hxs
   cases hq : numOf (txt x)
   ·
    rw [hq] at CN HK
    unfold numE at CN
    have HT1 : Hid (Ni.Own wz w.heap.size _ (numsI (xs.take (k + 1)))) := Lib.hid (by rw [HK.out]; simp only [Option.map_none,Option.toList_none,List.append_nil]; exact HT.out)
    clear hq HT
    go_wp2_with (go_at_call 85; refine CN.out.mono ?_; rintro e u ⟨rfl,hu⟩; rw [hu]; clear hu u)
    go_roundw
    case rel => exact ⟨k + 1,by omega,by go_num,HT1,HB⟩
    case measure => simp [intOf]; omega
   ·
    rename_i j
    rw [hq] at CN HK
    unfold numE at CN
    clear hq
    go_wp2_with (first | (go_at_call 85; refine CN.out.mono ?_; rintro e u ⟨rfl,hu⟩; rw [hu]; clear hu u) | (at_builtin; go_must (refine Ni.app wz (j : Int) rfl (.tmp 20) (.tmp 22) rfl w.heap.size _ (numsI (xs.take k)) rfl HT.out rfl hle.out HB.out.size ?_)))
    intro v' w1 ho gr
    have HO1 : Hid (Ni.Own w1 w.heap.size v' (numsI (xs.take (k + 1)))) := Lib.hid (by rw [HK.out]; exact ho)
    have HB1 : Hid (Below w.heap.size w w1) := Lib.hid ((HB.out.alloc HB.out.size _).grown gr (by have := HB.out.size; simp; omega) (Ni.own_ge HT.out))
    clear ho gr HT
    go_wp2_with fail
    go_roundw
    case rel => exact ⟨k + 1,by omega,by go_num,HO1,HB1⟩
    case measure => simp [intOf]; omega
  ·
   obtain rfl : k = n := by omega
   have HM : Hid (numsI (xs.take k) = numsI xs) := Lib.hid (by rw [List.take_of_length_le (by have := HN.out; omega)])
   rw [HM.out] at HT
   have CS := Lib.hid (Ni.sort w HT.out (by have := numsI_len xs; have := HN.out; omega) HB.out)
   clear HT
   go_wp2_with (go_at_call 86; refine CS.out.mono ?_; rintro e u ⟨rfl,ho,hb⟩; have HO := Lib.hid ho; have HBu := Lib.hid hb; clear ho hb CS)
   go_ret
   exact ⟨_,rfl,by rw [← numsI_sort]; exact HO.out,HBu.out⟩
end Go.Proofs.YtmhmajoghbgcfaaGreatDoor.Wl
namespace Go.Proofs.YtmhmajoghbgcfaaGreatDoor.Bw
open Go.RowKit Go.Shelf
open Mem
attribute [local go_sem] Oper.semAt_some
def come (n m : Nat) : List (Fin n) := ((List.finRange n).reverse).take (n - m)
theorem come_succ {n m : Nat} (h : m < n) : come n m = come n (m + 1) ++ [⟨m,h⟩] := by
 unfold come
 have hl : n - (m + 1) < (List.finRange n).reverse.length := by rw [List.length_reverse,List.length_finRange]; omega
 rw [show n - m = (n - (m + 1)) + 1 by omega,List.take_succ_eq_append_getElem hl,List.getElem_reverse]
 congr 2
 rw [List.getElem_finRange]
 apply Fin.ext
 simp only [List.length_finRange,Fin.val_cast]
 omega
theorem come_len {n m : Nat} (h : m ≤ n) : (come n m).length = n - m := by
 unfold come
 rw [List.length_take,List.length_reverse,List.length_finRange]
 omega
def ev (zs : List Int) {n : Nat} (x : Fin n) : Array Value := #[.int .i64 (x.val : Int),.int .i64 (zs[x.val]?.getD 0)]
set_option maxHeartbeats 2000000 in
theorem closure (F : Fence) (n : Nat) (hf : F.fn 126) (hro : F.round = none) (hn : 1 ≤ n) (l Bs n₀ : Nat) (ao : Option Addr) (len cap : Nat) (zs : List Int) (hB : Bs < n₀) (hlen : len = zs.length) (hcl : len ≤ cap) (hcp : cap ≤ 9223372036854775807)
  (hs : zs = [] ∨ ∃ b off,ao = some ⟨b,off,none⟩ ∧ b < n₀) (J Jx : List (Fin len) → World → Prop)
  (hY : ∀ pre x W,J pre W → pre.length < len → YieldAt F (n - 1) Tryz.prog l (ev zs x) W fun e W' =>
   (e = .returned (.bool true) ∧ J (pre ++ [x]) W' ∧ Below n₀ W W') ∨ (e = .returned (.bool false) ∧ Jx (pre ++ [x]) W'))
  (W : World) (hBs : W.cell? ⟨Bs,0,none⟩ = some (.slice ao len cap)) (hc : ∀ b off,ao = some ⟨b,off,none⟩ → ∀ j,j < len → W.cell? ⟨b,off + j,none⟩ = some (.int .i64 (zs[j]?.getD 0))) (h0 : J [] W) :
  CallsIn F n Tryz.prog 126 #[.func (.yield l) #[] #[],.pointer (some ⟨Bs,0,none⟩)] W fun e W' => (∃ v,e = .returned v) ∧
   ((∃ ys,ys = come len 0 ∧ J ys W') ∨ (∃ pre,(∃ k,k ≤ len ∧ pre = come len k) ∧ Jx pre W')) := by
 refine callsIn_of_wp Tryz.func126 rfl hf ?_ hro
 simp only [Tryz.ntmps126,List.size_toArray,List.length_cons,List.length_nil,Nat.reduceAdd,Nat.reduceSub,Array.replicate_succ,Array.replicate_zero,List.push_toArray,List.append_toArray,List.nil_append,List.cons_append]
 gi_wp2
 gi_loopw [3] (fun i wr => ∃ m : Nat,m ≤ len ∧ i = .int .i64 ((m : Int) - 1) ∧ J (come len m) wr ∧ Below n₀ W wr) (fun i _ => (intOf i + 1).toNat)
 case atStart => exact ⟨len,Nat.le_refl _,by first | rfl | go_num,by unfold come; rw [Nat.sub_self]; exact h0,Below.refl _ _⟩
 case round =>
  obtain ⟨m,hm,rfl,hJs,hnx⟩ := hrel
  cases m with
  | zero =>
   gi_wp2
   go_end0
   exact ⟨⟨_,rfl⟩,.inl ⟨_,rfl,hJs⟩⟩
  | succ m =>
   obtain ⟨b,off,rfl,hb⟩ := hs.resolve_left (fun e => by rw [e] at hlen; simp at hlen; omega)
   have hBx : wr.cell? ⟨Bs,0,none⟩ = some (.slice (some ⟨b,off,none⟩) len cap) := (hnx.cell (p := ⟨Bs,0,none⟩) hB).trans hBs
   have hcx : wr.cell? ⟨b,off + m,none⟩ = some (.int .i64 (zs[m]?.getD 0)) := (hnx.cell (p := ⟨b,off + m,none⟩) hb).trans (hc b off rfl m (by omega))
   rw [show ((m + 1 : Nat) : Int) - 1 = (m : Int) by omega]
   obtain ⟨fn,tmps,assign,body,hy,hR⟩ := hY _ ⟨m,by omega⟩ wr hJs (by rw [come_len (by omega)]; omega)
   unfold ev at hy
   dsimp only at hy
   have hml : m < len := by omega
   gi_wp2
   refine hR.mono ?_
   rintro e W3 (⟨rfl,hJ3,hk3⟩ | ⟨rfl,hJx3⟩)
   ·
    gi_wp2
    go_roundw
    case rel => exact ⟨m,by omega,by first | rfl | go_num,by rw [come_succ hml]; exact hJ3,hnx.trans hk3⟩
    case measure => simp [intOf] <;> omega
   ·
    gi_wp2
    refine bodyPost_ret (results_none rfl _ _ _) rfl ?_
    exact ⟨⟨_,rfl⟩,.inr ⟨_,⟨m,by omega,(come_succ hml).symm⟩,hJx3⟩⟩
set_option maxHeartbeats 1000000 in
theorem backward (F : Fence) (n : Nat) (hf : F.fn 87) (hro : F.round = none) (a : Option Addr) (len cap : Nat) (w : World) :
  CallsIn F n Tryz.prog 87 #[.slice a len cap] w fun e w' => e = .returned (.func (.func 126) #[] #[.pointer (some ⟨w.heap.size,0,none⟩)]) ∧ w' = w.alloc (.cells #[.slice a len cap] 46) := by
 refine callsIn_of_wp Tryz.func87 rfl hf ?_ hro
 simp only [Tryz.ntmps87,List.size_toArray,List.length_cons,List.length_nil,Nat.reduceAdd,Nat.reduceSub,Array.replicate_succ,Array.replicate_zero,List.push_toArray,List.append_toArray,List.nil_append,List.cons_append]
 gi_wp2
 go_ret
 exact ⟨rfl,rfl⟩
theorem stops (F : Fence) (n : Nat) (hf : F.fn 126) (hro : F.round = none) (hn : 1 ≤ n) (Bs n₀ : Nat) (ao : Option Addr) (len cap : Nat) (zs : List Int) (w : World) (hZ : Ni.Zs w ao len cap zs) (hBs : w.cell? ⟨Bs,0,none⟩ = some (.slice ao len cap)) (hB : Bs < n₀) (hn₀ : n₀ ≤ w.heap.size) (hao : ∀ ad,ao = some ad → ad.block < n₀) :
  SeqStopsK F n Tryz.prog 126 #[.pointer (some ⟨Bs,0,none⟩)] (ev zs (n := len)) (Below n₀) (fun ys => ys = come len 0) (fun pre => ∃ k,k ≤ len ∧ pre = come len k) len w := fun l J Jx W hW _ _ hY h0 => by
 have hW' : Below n₀ w W := hW.mono hn₀
 have hl := hZ.len
 refine closure F n hf hro hn l Bs n₀ ao len cap zs hB hl hZ.fits hZ.reach ?_ J Jx hY W ((hW'.cell (p := ⟨Bs,0,none⟩) hB).trans hBs) (fun b off e j hj => ?_) h0
 ·
  rcases hZ.seg with e | ⟨b,off,e,_⟩
  · exact .inl e
  · exact .inr ⟨b,off,e,hao _ e⟩
 ·
  rcases hZ.seg with e2 | ⟨b2,off2,e2,hc⟩
  ·
   rw [e2] at hl
   simp at hl
   omega
  ·
   rw [e2] at e
   cases e
   rw [(hW'.cell (p := ⟨b,off + j,none⟩) (hao ⟨b,off,none⟩ e2)).trans (hc j (by omega)),List.getElem?_eq_getElem (by omega)]
   rfl
end Go.Proofs.YtmhmajoghbgcfaaGreatDoor.Bw
namespace Go.Proofs.YtmhmajoghbgcfaaGreatDoor.Wl
open Go.RowKit Go.Shelf
open Mem Dk
attribute [local go_sem] Oper.semAt_some
theorem kept_block {A B : World} {row : Option Nat} {b : Nat} {c : Array Value} {ty : TypeId} {fr : Nat × Nat} (h : A.heap[b]? = some (.cells c ty fr)) (hg : A.grownBy B row) (hr : ∀ r,row = some r → ∃ o : Obj,A.heap[r]? = some o ∧ o.isCells = false) : B.heap[b]? = some (.cells c ty fr) := (grownBy_keeps_cells hg hr h rfl).trans h
theorem kept_rows {A B : World} {row : Option Nat} {Bn e k : Nat} {v : Value} {n : Nat} {xs : List Value} (h : A.ownsRow Bn e k v n xs) (hg : A.grownBy B row) (hr : ∀ r,row = some r → ∃ o : Obj,A.heap[r]? = some o ∧ o.isCells = false) : B.ownsRow Bn e k v n xs := by
 obtain ⟨h1,h2⟩ := h
 refine ⟨h1,?_⟩
 rcases h2 with h2 | ⟨g,cap,cur,h',hb,hg',h3⟩
 · exact .inl h2
 · exact .inr ⟨g,cap,cur,h',hb,kept_block hg' hg hr,h3⟩
theorem upd_turn {Q : Nat → Prop} {W4 A B : World} {row : Option Nat} (h : UpdQ Q W4 A) (hg : A.grownBy B row) (hr : ∀ r,row = some r → W4.heap.size ≤ r) : UpdQ Q W4 B :=
 upd_nw ((h.mono fun b z => .inl z).trans ((UpdQ.grown hg).mono fun b z => .inr (hr b z)))
structure FoundM (W4 W : World) (g p b1 b2 k : Nat) (f : Bool) (s : Sg) (v : Sl) (t : Bool) (at' : Nat) : Prop where
 c1 : W.cell? ⟨b1,0,none⟩ = some (.bool t)
 c2 : W.cell? ⟨b2,0,none⟩ = some (.int .i64 (at' : Int))
 blk : Blk W g 2 82 [.pointer (some ⟨p,0,none⟩),.int .i64 (k : Int)] [.bool f] (row s.h v) s.begun s.ready
 own : Et.Own W 0 (sv v) s.h.log
 upd : UpdQ (fun b => b = g ∨ b = b1 ∨ b = b2) W4 W
 pv : ∀ b,(sv v).ownBlock = some b → W4.heap.size ≤ b ∧ b ≠ g
 short : ∀ e ∈ s.h.log,Et.Short e
 few : s.h.log.length ≤ 200
 base : 0 ≤ s.h.base ∧ s.h.base ≤ 1099511627776
 fit : Fit s.h.term ∧ Fit s.h.vote ∧ Fit s.h.bt ∧ Fit s.h.mem
 snap : s.h.snap = .empty
theorem FoundM.turn {W4 A B : World} {g p b1 b2 k : Nat} {f : Bool} {s : Sg} {v : Sl} {t : Bool} {at' : Nat} {row : Option Nat} (h : FoundM W4 A g p b1 b2 k f s v t at') (hg : A.grownBy B row) (hr : ∀ r,row = some r → W4.heap.size ≤ r ∧ ∃ o : Obj,A.heap[r]? = some o ∧ o.isCells = false) : FoundM W4 B g p b1 b2 k f s v t at' :=
 have hr2 := fun r e => (hr r e).2
 ⟨cell_kept h.c1 hg hr2,cell_kept h.c2 hg hr2,⟨h.blk.1,kept_block h.blk.2 hg hr2⟩,kept_rows h.own hg hr2,upd_turn h.upd hg fun r e => (hr r e).1,h.pv,h.short,h.few,h.base,h.fit,h.snap⟩
theorem keepsOthers_below {A B : World} (h : Below A.heap.size A B) : KeepsOthers A B := ⟨h.size,fun k o hk _ => (h.block k (Array.getElem?_eq_some_iff.1 hk).1).trans hk⟩
theorem keepsOthers_upd {Q : Nat → Prop} {A B : World} (h : UpdQ Q A B) (hc : ∀ b,Q b → b < A.heap.size → ∃ c ty fr,A.heap[b]? = some (.cells c ty fr)) : KeepsOthers A B :=
 ⟨h.size,fun k o hk ho => by
  have hl := (Array.getElem?_eq_some_iff.1 hk).1
  refine (h.block k hl fun z => ?_).trans hk
  obtain ⟨c,ty,fr,e⟩ := hc k z hl
  rw [e] at hk
  cases hk
  cases ho⟩
theorem findL_none {fs : List F} : ∀ l : List Nat,(∀ m ∈ l,(read (flOf fs m)).1.ready = false) → findL fs l = (0,empty,false,0)
 | [],_ => rfl
 | m :: l,h => by
  rw [findL,if_neg (by rw [h m (List.mem_cons_self ..)]; simp)]
  exact findL_none l fun x hx => h x (List.mem_cons_of_mem _ hx)
theorem findL_hit {fs : List F} {n : Nat} (hr : (read (flOf fs n)).1.ready = true) (l2 : List Nat) : ∀ l : List Nat,(∀ m ∈ l,(read (flOf fs m)).1.ready = false) → findL fs (l ++ n :: l2) = (n,(read (flOf fs n)).1,decide ((read (flOf fs n)).2 < (flOf fs n).length),(read (flOf fs n)).2)
 | [],_ => by rw [List.nil_append,findL,if_pos hr]
 | m :: l,h => by
  rw [List.cons_append,findL,if_neg (by rw [h m (List.mem_cons_self ..)]; simp)]
  exact findL_hit hr l2 l fun x hx => h x (List.mem_cons_of_mem _ hx)
theorem rev_fin (ks : List Nat) (m : Nat) (hm : m = ks.length) : ks.reverse = ((List.finRange m).reverse).map fun x : Fin m => ks[x.val]'(hm ▸ x.isLt) := by
 subst hm
 rw [List.map_reverse]
 congr 1
 apply List.ext_getElem
 · simp
 ·
  intro i h1 h2
  simp
theorem findL_come {fs : List F} {ks : List Nat} {m : Nat} (hm : m = ks.length) {pre : List (Fin m)} {x : Fin m} (h : ∃ k,k ≤ m ∧ pre ++ [x] = Bw.come m k) (hn : ∀ i ∈ pre,(read (flOf fs (ks[i.val]'(hm ▸ i.isLt)))).1.ready = false) (hr : (read (flOf fs (ks[x.val]'(hm ▸ x.isLt)))).1.ready = true) :
  findL fs ks.reverse = (ks[x.val]'(hm ▸ x.isLt),(read (flOf fs (ks[x.val]'(hm ▸ x.isLt)))).1,decide ((read (flOf fs (ks[x.val]'(hm ▸ x.isLt)))).2 < (flOf fs (ks[x.val]'(hm ▸ x.isLt))).length),(read (flOf fs (ks[x.val]'(hm ▸ x.isLt)))).2) := by
 obtain ⟨k,hk,e⟩ := h
 unfold Bw.come at e
 have e2 : (List.finRange m).reverse = pre ++ x :: ((List.finRange m).reverse).drop (m - k) := by
  conv => lhs; rw [← List.take_append_drop (m - k) (List.finRange m).reverse,← e]
  rw [List.append_assoc]
  rfl
 rw [rev_fin ks m hm,e2,List.map_append,List.map_cons]
 exact findL_hit hr _ _ fun y hy => by
  obtain ⟨i,hi,rfl⟩ := List.mem_map.1 hy
  exact hn i hi
theorem findL_all {fs : List F} {ks : List Nat} {m : Nat} (hm : m = ks.length) (hn : ∀ i ∈ Bw.come m 0,(read (flOf fs (ks[i.val]'(hm ▸ i.isLt)))).1.ready = false) : findL fs ks.reverse = (0,empty,false,0) := by
 refine findL_none _ fun y hy => ?_
 rw [rev_fin ks m hm] at hy
 obtain ⟨i,hi,rfl⟩ := List.mem_map.1 hy
 exact hn i (by unfold Bw.come; rw [List.take_of_length_le (by simp)]; exact hi)
def FindE (R : Nat → Prop) (w0 w : World) (g p : Nat) (f : Bool) (d : D) (x : Nat × Sg × Bool × Nat) (e : Ending) (w' : World) : Prop := e = .returned (.tuple #[.bool x.2.2.1,.int .i64 (x.2.2.2 : Int)]) ∧ Both (nw R w) w0 w' g p x.1 f x.2.1 d ∧ UpdQ R w w'
set_option maxHeartbeats 8000000 in
theorem wl_find {R : Nat → Prop} {w0 w : World} {g p : Nat} {f : Bool} {d : D} (h : Both R w0 w g p 0 f empty d) (ao : Option Addr) (m cap : Nat) (ks : List Nat) (hI : Ni.Zs w ao m cap (ks.map fun k : Nat => (k : Int))) (hao : ∀ ad,ao = some ad → ad.block < w.heap.size) (hk : ∀ k ∈ ks,k < 100) :
  Calls Tryz.prog 41 #[.pointer (some ⟨g,0,none⟩),.slice ao m cap] w (FindE R w0 w g p f d (findL d.fs ks.reverse)) := by
 have HM : Hid (m = ks.length) := Lib.hid (by have := hI.len; rw [List.length_map] at this; exact this)
 refine (callsIn_wide (n := 3)).1 ?_
 refine callsIn_of_wp_marks Tryz.func41 rfl trivial ?_ rfl
 simp only [Tryz.ntmps41,List.size_toArray,List.length_cons,List.length_nil,Nat.reduceAdd,Nat.reduceSub,Array.replicate_succ,Array.replicate_zero,List.push_toArray,List.append_toArray,List.nil_append,List.cons_append]
 gi_wp2_with (refine ⟨trivial,?_⟩; gi_at_call 87; refine (Bw.backward Fence.wide (3 - 1) trivial rfl _ _ _ _).mono ?_; rintro e w' ⟨rfl,rfl⟩)
 obtain ⟨W1,hW1⟩ : ∃ W1,w.alloc (.cells #[.pointer (some ⟨g,0,none⟩)] 24) = W1 := ⟨_,rfl⟩
 have z1 : Below w.heap.size w W1 := hW1 ▸ (Below.refl _ _).alloc (Nat.le_refl _) _
 have s1 : W1.heap.size = w.heap.size + 1 := by rw [← hW1]; simp
 have q0 : W1.heap[w.heap.size]? = some (.cells #[.pointer (some ⟨g,0,none⟩)] 24 (0,0)) := hW1 ▸ heap_alloc_new w _
 obtain ⟨W2,hW2⟩ : ∃ W2,W1.alloc (.cells #[.bool false] 4) = W2 := ⟨_,rfl⟩
 have z2 : Below W1.heap.size W1 W2 := hW2 ▸ (Below.refl _ _).alloc (Nat.le_refl _) _
 have s2 : W2.heap.size = w.heap.size + 1 + 1 := by rw [← hW2,← s1]; simp
 have q1 : W2.heap[w.heap.size + 1]? = some (.cells #[.bool false] 4 (0,0)) := s1 ▸ hW2 ▸ heap_alloc_new W1 _
 obtain ⟨W3,hW3⟩ : ∃ W3,W2.alloc (.cells #[.int .i64 0] 3) = W3 := ⟨_,rfl⟩
 have z3 : Below W2.heap.size W2 W3 := hW3 ▸ (Below.refl _ _).alloc (Nat.le_refl _) _
 have s3 : W3.heap.size = w.heap.size + 1 + 1 + 1 := by rw [← hW3,← s2]; simp
 have q2 : W3.heap[w.heap.size + 1 + 1]? = some (.cells #[.int .i64 0] 3 (0,0)) := s2 ▸ hW3 ▸ heap_alloc_new W2 _
 obtain ⟨W4,hW4⟩ : ∃ W4,W3.alloc (.cells #[.slice ao m cap] 46) = W4 := ⟨_,rfl⟩
 have z4 : Below W3.heap.size W3 W4 := hW4 ▸ (Below.refl _ _).alloc (Nat.le_refl _) _
 have hs4 : W4.heap.size = w.heap.size + 1 + 1 + 1 + 1 := by rw [← hW4,← s3]; simp
 have k3 : W4.heap[w.heap.size + 1 + 1 + 1]? = some (.cells #[.slice ao m cap] 46 (0,0)) := s3 ▸ hW4 ▸ heap_alloc_new W3 _
 have k2 : W4.heap[w.heap.size + 1 + 1]? = some (.cells #[.int .i64 0] 3 (0,0)) := (z4.block _ (by omega)).trans q2
 have k1 : W4.heap[w.heap.size + 1]? = some (.cells #[.bool false] 4 (0,0)) := ((bchain z3 z4).block _ (by omega)).trans q1
 have k0 : W4.heap[w.heap.size]? = some (.cells #[.pointer (some ⟨g,0,none⟩)] 24 (0,0)) := ((bchain z2 (bchain z3 z4)).block _ (by omega)).trans q0
 have hb4 : Below w.heap.size w W4 := bchain z1 (bchain z2 (bchain z3 z4))
 have c3 : W4.cell? ⟨w.heap.size + 1 + 1 + 1,0,none⟩ = some (.slice ao m cap) := by rw [cell_of_row W4 _ _ _ _ _ k3]; rfl
 have hZ : Ni.Zs W4 ao m cap (ks.map fun k : Nat => (k : Int)) := hI.below hb4
 rw [hW1,hW2,hW3]
 rw [hW4]
 have HB := Lib.hid (h.later hb4)
 clear hW1 hW2 hW3 hW4 q0 q1 q2 z1 z2 z3 z4 s1 s2 s3 W1 W2 W3
 refine wpIn_rangeFunc_ownF rfl (show 1 ≤ 3 by omega) (gf := 126) (lb := #[.pointer (some ⟨w.heap.size + 1 + 1 + 1,0,none⟩)]) rfl trivial (enters_of Tryz.func126 (by kernel_rfl) rfl)
  (Bw.stops Fence.wide (3 - 1) trivial rfl (by omega) (w.heap.size + 1 + 1 + 1) W4.heap.size ao m cap (ks.map fun k : Nat => (k : Int)) W4 hZ c3 (by omega) (Nat.le_refl _) (fun ad e => by have := hao ad e; omega)) belowK_t (belowK_b (Nat.le_refl _)) (Below.refl _ _) (fun _ => rfl)
  (fun pre W => (∀ i ∈ pre,(read (flOf d.fs (ks[i.val]'(HM.out ▸ i.isLt)))).1.ready = false) ∧ Below W4.heap.size W4 W)
  (fun c pre W => c = .ret ∧ ∃ (pre' : List (Fin m)) (x : Fin m),pre = pre' ++ [x] ∧ (∀ i ∈ pre',(read (flOf d.fs (ks[i.val]'(HM.out ▸ i.isLt)))).1.ready = false) ∧ (read (flOf d.fs (ks[x.val]'(HM.out ▸ x.isLt)))).1.ready = true ∧ ∃ v,FoundM W4 W g p (w.heap.size + 1) (w.heap.size + 1 + 1) (ks[x.val]'(HM.out ▸ x.isLt)) f (read (flOf d.fs (ks[x.val]'(HM.out ▸ x.isLt)))).1 v (decide ((read (flOf d.fs (ks[x.val]'(HM.out ▸ x.isLt)))).2 < (flOf d.fs (ks[x.val]'(HM.out ▸ x.isLt))).length)) (read (flOf d.fs (ks[x.val]'(HM.out ▸ x.isLt)))).2)
  (OwnFrom.and (ownFrom_pure _ _) (ownFrom_below (Nat.le_refl _) (Nat.le_refl _)))
  (fun c => fun s A B row hs hg hr => by
   obtain ⟨e,pre',x,h1,h2,h3,v,hF⟩ := hs
   exact ⟨e,pre',x,h1,h2,h3,v,hF.turn hg hr⟩)
  ⟨(fun i hi => by cases hi),Below.refl _ _⟩
  (fun x => { tmps := #[.pointer (some ⟨g,0,none⟩),.slice ao m cap,.pointer (some ⟨w.heap.size,0,none⟩),undef,.pointer (some ⟨w.heap.size + 1,0,none⟩),.pointer (some ⟨w.heap.size + 1 + 1,0,none⟩),undef,.int .i64 ((ks.map fun k : Nat => (k : Int))[x.val]?.getD 0),undef,undef,undef,undef,.slice ao m cap,.func (.func 126) #[] #[.pointer (some ⟨w.heap.size + 1 + 1 + 1,0,none⟩)],.int .i64 (x.val : Int),.int .i64 ((ks.map fun k : Nat => (k : Int))[x.val]?.getD 0),undef,undef,undef,undef,undef,undef,undef,undef,undef,undef,undef,undef,undef,undef,undef,undef,undef,undef,undef,undef,undef,undef,undef,undef,undef,undef,undef,undef,undef,undef],defers := [] }) ?assign ?body ?done ?stop
 case assign =>
  intro l x W K hK
  unfold Bw.ev
  generalize (ks.map fun k : Nat => (k : Int))[x.val]?.getD 0 = y at hK ⊢
  gi_wp2
  exact hK
 case body =>
  rintro l pre x W ⟨hpre,hB⟩ hlt
  have hxl : x.val < ks.length := HM.out ▸ x.isLt
  have hke : (ks.map fun k : Nat => (k : Int))[x.val]?.getD 0 = ((ks[x.val] : Nat) : Int) := by
   rw [List.getElem?_map,List.getElem?_eq_getElem hxl]
   rfl
  rw [hke]
  obtain ⟨k,hkx⟩ : ∃ k,ks[x.val] = k := ⟨_,rfl⟩
  have hk100 : k < 100 := hkx ▸ hk _ (List.getElem_mem hxl)
  rw [hkx]
  have HX := Lib.hid hkx
  have HBW := Lib.hid (HB.out.later hB)
  obtain ⟨P,Q,hp⟩ := HBW.out
  have HP := Lib.hid hp
  obtain ⟨g0,g1,g11,gz,glt⟩ := hp.wal.cells
  have a0 : W.cell? ⟨w.heap.size,0,none⟩ = some (.pointer (some ⟨g,0,none⟩)) := by
   rw [cell_of_row W _ _ _ _ _ ((hB.block _ (by omega)).trans k0)]
   rfl
  have hmx : Tryz.prog.follows .mixedOrders = true := by kernel_rfl
  have CR : Hid (∀ u,Below W.heap.size W u → Calls Tryz.prog 64 #[.pointer (some ⟨p,0,none⟩),.string (wname k)] u fun e w' => ∃ (ao : Option Addr) (n : Nat) (b : Bool),e = .returned (.tuple #[.slice ao n n,.bool b]) ∧ By.Ls w' ao n n (flOf d.fs k) ∧ n ≤ 140737488355328 ∧ Below W.heap.size W w') := Lib.hid fun u hb => by
   refine (s_read (HP.out.dsk.later hb) (wname k)).mono ?_
   rintro e w' ⟨b,⟨hh,rfl⟩ | ⟨hh,g',rfl,hb',_⟩⟩
   ·
    refine ⟨none,0,false,rfl,?_,by omega,bchain hb b⟩
    unfold flOf
    rw [own_no hh]
    exact By.ls_nil _
   ·
    have ho := HP.out.dsk.dsk.elim fun v h => h.elim fun L h => h.elim fun rs h => h.ok
    have h1 := Dk.total_mem (f := Dk.own (wname k) d.fs) (l := d.fs) (by rw [own_at ho.sorted hh]; exact List.getElem_mem _)
    have := ho.room
    exact ⟨some ⟨g',0,none⟩,_,true,rfl,hb'.ls (by omega),by omega,bchain hb b⟩
  have CD : Hid (∀ u ao n,Below W.heap.size W u → By.Ls u ao n n (flOf d.fs k) → n ≤ 140737488355328 → Calls Tryz.prog 88 #[.slice ao n n] u (ReadE u (flOf d.fs k))) := Lib.hid fun u ao n hb hL hn => wl_read ao n n _ u hL hn
  clear hp g1 g11
  gi_wp2_with fail
  refine wpIn_mono (Q := fun e a' w' => e = .normal ∧ ∃ (ao3 : Option Addr) (n3 : Nat) (b3 : Bool),a' = { tmps := #[.pointer (some ⟨g,0,none⟩),.slice ao m cap,.pointer (some ⟨w.heap.size,0,none⟩),undef,.pointer (some ⟨w.heap.size + 1,0,none⟩),.pointer (some ⟨w.heap.size + 1 + 1,0,none⟩),undef,.int .i64 (k : Int),.slice ao3 n3 n3,.bool b3,undef,undef,.slice ao m cap,.func (.func 126) #[] #[.pointer (some ⟨w.heap.size + 1 + 1 + 1,0,none⟩)],.int .i64 (x.val : Int),.int .i64 (k : Int),.tuple #[.slice ao3 n3 n3,.bool b3],.pointer (some ⟨g,0,none⟩),.pointer (some ⟨g,0,none⟩),.pointer (some ⟨g,0,none⟩),.pointer (some ⟨p,0,none⟩),.int .i64 (k : Int),.string (wname k),.tuple #[.slice ao3 n3 n3,.bool b3],.slice ao3 n3 n3,.bool b3,undef,undef,undef,undef,undef,undef,undef,undef,undef,undef,undef,undef,undef,undef,undef,undef,undef,undef,undef,undef],defers := [] } ∧ By.Ls w' ao3 n3 n3 (flOf d.fs k) ∧ n3 ≤ 140737488355328 ∧ Below W.heap.size W w') ?_ ?_
  ·
   gi_region_with_o (first | (refine ⟨trivial,?_⟩; gi_at_call 43; refine (CallsIn.inRound l (callsIn_wide.2 (wl_name k hk100 _))).mono ?_; rintro e u ⟨rfl,rfl⟩) | (refine ⟨trivial,?_⟩; gi_at_call 64; refine (CallsIn.inRound l (callsIn_wide.2 (CR.out _ ((Below.refl _ _).drew)))).mono ?_; rintro e u3 ⟨ao3,n3,b3,rfl,hl3,hn3,hb3⟩))
   all_goals exact ⟨rfl,ao3,n3,b3,rfl,hl3,hn3,hb3⟩
  rintro e a' u3 ⟨rfl,ao3,n3,b3,rfl,hl3,hn3,hb3⟩
  have CD3 := Lib.hid (CD.out u3 ao3 n3 hb3 hl3 hn3)
  have HL3 := Lib.hid hl3
  have HB3 := Lib.hid hb3
  obtain ⟨sg,hsg⟩ : ∃ sg,read (flOf d.fs k) = sg := ⟨_,rfl⟩
  obtain ⟨s',at'⟩ := sg
  unfold ReadE at CD3
  rw [hsg] at CD3
  dsimp only at CD3
  obtain ⟨sh,sb,sr⟩ := s'
  have HN3 := Lib.hid hl3.len
  have HS := Lib.hid hsg
  clear hl3 hb3 CR CD a0 g0 gz glt hsg
  cases sr
  ·
   gi_wp2_with (first | (refine ⟨trivial,?_⟩; gi_at_call 88; refine (CallsIn.inRound l (callsIn_wide.2 CD3.out)).mono ?_; rintro e u4 ⟨⟨vo,vn,vc⟩,rfl,hvl,hb4'⟩; have HV := Lib.hid hvl; have HB4 := Lib.hid hb4'; clear hvl hb4' CD3; unfold val) | fail)
   have HW5 := Lib.hid (bchain HB3.out (bchain HB4.out ((Below.refl u4.heap.size u4).alloc (Nat.le_refl _) (.cells #[.int .i64 sh.term,.int .i64 sh.vote,.int .i64 sh.base,.int .i64 sh.bt,.int .i64 sh.mem,.string sh.snap,.slice vo vn vc,.bool sb,.bool false] 79))))
   refine ⟨keepsOthers_below HW5.out,HW5.out.mono hB.size,fun i hi => ?_,hB.trans (HW5.out.mono hB.size)⟩
   rcases List.mem_append.1 hi with hi | hi
   · exact hpre i hi
   · rw [List.mem_singleton.1 hi,HX.out,HS.out]
  ·
   gi_wp2_with (first | (refine ⟨trivial,?_⟩; gi_at_call 88; refine (CallsIn.inRound l (callsIn_wide.2 CD3.out)).mono ?_; rintro e u4 ⟨⟨vo,vn,vc⟩,rfl,hvl,hb4'⟩; have HV := Lib.hid hvl; have HB4 := Lib.hid hb4'; clear hvl hb4' CD3; unfold val) | fail)
   obtain ⟨W5,hW5⟩ : ∃ W5,u4.alloc (.cells (cel (row sh ⟨vo,vn,vc⟩) sb true).toArray 79) = W5 := ⟨_,rfl⟩
   have hb5 : Below W.heap.size W W5 := hW5 ▸ bchain HB3.out (bchain HB4.out ((Below.refl u4.heap.size u4).alloc (Nat.le_refl _) _))
   have hk5 : Blk W5 u4.heap.size 0 79 [] [] (row sh ⟨vo,vn,vc⟩) sb true := hW5 ▸ blk_new u4 _ _ _ _
   have hu5 : W.heap.size ≤ u4.heap.size := Nat.le_trans HB3.out.size HB4.out.size
   have HP5 := Lib.hid (HP.out.later hb5)
   have HVL := Lib.hid (HV.out.below (u := W5) (hW5 ▸ (Below.refl u4.heap.size u4).alloc (Nat.le_refl _) _))
   have HB5 := Lib.hid hb5
   change Code.wpIn _ _ _ _ _ _ (u4.alloc (.cells (cel (row sh ⟨vo,vn,vc⟩) sb true).toArray 79))
   rw [hW5]
   obtain ⟨e0,e1,e2,e3,e4,e5,e6,e7,e8⟩ := hk5.cells
   unfold row at e0 e1 e2 e3 e4 e5 e6
   unfold sv at e6
   dsimp only at e0 e1 e2 e3 e4 e5 e6
   rw [Nat.zero_add] at e1 e2 e3 e4 e5 e6 e7 e8
   obtain ⟨g0,g1,g11,gz,glt⟩ := HP5.out.wal.cells
   obtain ⟨i0,i1,i2,i3,i4,tt,wo,wn,wc,bb,cc,n0,n1,n2,n3',n4,n5,n6,n7,n8⟩ := HP5.out.wal.nine
   have a0 : W5.cell? ⟨w.heap.size,0,none⟩ = some (.pointer (some ⟨g,0,none⟩)) := by
    rw [cell_of_row W5 _ _ _ _ _ ((hb5.block _ (by have := hB.size; omega)).trans ((hB.block _ (by omega)).trans k0))]
    rfl
   have HG := Lib.hid hu5
   have gne2 : g ≠ u4.heap.size := by have := HP.out.pl g HP.out.wal.pg; omega
   have gne3 : u4.heap.size ≠ g := fun z => gne2 z.symm
   have gne : (g == u4.heap.size) = false := beq_eq_false_iff_ne.2 gne2
   have gne4 : (u4.heap.size == g) = false := beq_eq_false_iff_ne.2 gne3
   clear hW5 hb5 hk5 hu5
   refine wpIn_mono (Q := fun e a' w' => e = .normal ∧ a' = { tmps := #[.pointer (some ⟨g,0,none⟩),.slice ao m cap,.pointer (some ⟨w.heap.size,0,none⟩),undef,.pointer (some ⟨w.heap.size + 1,0,none⟩),.pointer (some ⟨w.heap.size + 1 + 1,0,none⟩),undef,.int .i64 (k : Int),.slice ao3 n3 n3,.bool b3,.pointer (some ⟨u4.heap.size,0,none⟩),.int .i64 (at' : Int),.slice ao m cap,.func (.func 126) #[] #[.pointer (some ⟨w.heap.size + 1 + 1 + 1,0,none⟩)],.int .i64 (x.val : Int),.int .i64 (k : Int),.tuple #[.slice ao3 n3 n3,.bool b3],.pointer (some ⟨g,0,none⟩),.pointer (some ⟨g,0,none⟩),.pointer (some ⟨g,0,none⟩),.pointer (some ⟨p,0,none⟩),.int .i64 (k : Int),.string (wname k),.tuple #[.slice ao3 n3 n3,.bool b3],.slice ao3 n3 n3,.bool b3,.tuple #[.agg #[.int .i64 sh.term,.int .i64 sh.vote,.int .i64 sh.base,.int .i64 sh.bt,.int .i64 sh.mem,.string sh.snap,.slice vo vn vc,.bool sb,.bool true],.int .i64 (at' : Int)],.slice ao3 n3 n3,.tuple #[.agg #[.int .i64 sh.term,.int .i64 sh.vote,.int .i64 sh.base,.int .i64 sh.bt,.int .i64 sh.mem,.string sh.snap,.slice vo vn vc,.bool sb,.bool true],.int .i64 (at' : Int)],.agg #[.int .i64 sh.term,.int .i64 sh.vote,.int .i64 sh.base,.int .i64 sh.bt,.int .i64 sh.mem,.string sh.snap,.slice vo vn vc,.bool sb,.bool true],.int .i64 (at' : Int),.pointer (some ⟨u4.heap.size,8,none⟩),.bool true,.pointer (some ⟨g,0,none⟩),.pointer (some ⟨g,0,none⟩),.int .i64 (k : Int),.agg #[.int .i64 sh.term,.int .i64 sh.vote,.int .i64 sh.base,.int .i64 sh.bt,.int .i64 sh.mem,.string sh.snap,.slice vo vn vc,.bool sb,.bool true],.pointer (some ⟨g,0,none⟩),.pointer (some ⟨g,1,none⟩),.pointer (some ⟨g,0,none⟩),.pointer (some ⟨g,2,none⟩),undef,undef,undef,undef,undef],defers := [] } ∧ w' = (lay9 (W5.setCell ⟨g,1,none⟩ (.int .i64 (k : Int))) g 2 (row sh ⟨vo,vn,vc⟩) sb true).drew) ?_ ?_
   ·
    gi_region_with_o fail
    all_goals exact ⟨rfl,rfl,rfl⟩
   rintro e a' UU ⟨rfl,rfl,hUU⟩
   obtain ⟨v0,hseg0⟩ := (HP5.out.wal.count k).1
   have hbk : Blk UU g 2 82 [.pointer (some ⟨p,0,none⟩),.int .i64 (k : Int)] [.bool f] (row sh ⟨vo,vn,vc⟩) sb true := hUU ▸ (hseg0.blk.lay9 _ _ _).below (Below.refl _ _).drew
   have hup : UpdQ (fun b => b = g) W5 UU := hUU ▸ ((upd_set W5 g 1 _).trans (lay9_upd _ g 2 _ _ _)).trans (UpdQ.of (Below.refl _ _).drew)
   have hgw : g < w.heap.size := by
    obtain ⟨P9,Q9,h9⟩ := h
    exact h9.pl g h9.wal.pg
   have hW5 := HB5.out.size
   have hW4 := hB.size
   have hblk : ∀ b,b < W4.heap.size → b ≠ g → UU.heap[b]? = W4.heap[b]? := fun b z z2 => (hup.block b (by omega) z2).trans ((HB5.out.block b (by omega)).trans (hB.block b z))
   have m1 := (hblk (w.heap.size + 1) (by omega) (by omega)).trans k1
   have m2 := (hblk (w.heap.size + 1 + 1) (by omega) (by omega)).trans k2
   have d1 : UU.cell? ⟨w.heap.size + 1,0,none⟩ = some (.bool false) := by rw [cell_of_row UU _ _ _ _ _ m1]; rfl
   have d2 : UU.cell? ⟨w.heap.size + 1 + 1,0,none⟩ = some (.int .i64 0) := by rw [cell_of_row UU _ _ _ _ _ m2]; rfl
   have f1 := frozen_of_row UU (w.heap.size + 1) 0 _ _ m1
   have f2 := frozen_of_row UU (w.heap.size + 1 + 1) 0 _ _ m2
   have HBK := Lib.hid hbk
   have HUP := Lib.hid hup
   have HM := Lib.hid (And.intro m1 m2)
   have HGW := Lib.hid hgw
   have HSZ : Hid (UU.heap.size = W5.heap.size) := Lib.hid (by rw [hUU]; simp [lay9,lay])
   clear hUU hbk hup hblk m1 m2 hseg0 g0 g1 g11 gz glt n0 n1 n2 n3' n4 n5 n6 n7 n8 e0 e1 e2 e3 e4 e5 e6 e7 e8 a0 gne gne2 gne3 gne4 hgw
   gi_wp2_with fail
   obtain ⟨X,hX⟩ : ∃ X,(UU.setCell ⟨w.heap.size + 1,0,none⟩ (.bool (decide (at' < n3)))).setCell ⟨w.heap.size + 1 + 1,0,none⟩ (.int .i64 (at' : Int)) = X := ⟨_,rfl⟩
   have hu : UpdQ (fun b => b = w.heap.size + 1 ∨ b = w.heap.size + 1 + 1) UU X := hX ▸ ((upd_set UU (w.heap.size + 1) 0 _).mono fun b z => .inl z).trans ((upd_set _ (w.heap.size + 1 + 1) 0 _).mono fun b z => .inr z)
   have e1 : X.cell? ⟨w.heap.size + 1,0,none⟩ = some (.bool (decide (at' < n3))) := by
    rw [← hX,World.cell?_of_block (heap_setCell_other _ _ _ _ (show w.heap.size + 1 ≠ w.heap.size + 1 + 1 by omega))]
    exact World.cell?_setCell_same' _ _ _ (by rw [d1]; rfl)
   have e2 : X.cell? ⟨w.heap.size + 1 + 1,0,none⟩ = some (.int .i64 (at' : Int)) := by
    rw [← hX]
    refine World.cell?_setCell_same' _ _ _ ?_
    rw [World.cell?_of_block (heap_setCell_other _ _ _ _ (show w.heap.size + 1 + 1 ≠ w.heap.size + 1 by omega)),d2]
    rfl
   rw [hX]
   have hgw := HGW.out
   have hWX : UpdQ (fun b => b = g ∨ b = w.heap.size + 1 ∨ b = w.heap.size + 1 + 1) W X := ((UpdQ.of HB5.out).trans (HUP.out.mono fun b z => .inl z)).trans (hu.mono fun b z => .inr z)
   have hs4' := HB4.out.size
   have hs3' := HB3.out.size
   refine ⟨keepsOthers_upd hWX fun b z z2 => ?_,rfl,pre,x,rfl,hpre,by rw [HX.out,HS.out],⟨vo,vn,vc⟩,?_⟩
   ·
    rcases z with rfl | rfl | rfl
    ·
     obtain ⟨v9,h9⟩ := HP.out.wal
     exact ⟨_,_,_,h9.blk.2⟩
    · exact ⟨_,_,_,(hB.block _ (by omega)).trans k1⟩
    · exact ⟨_,_,_,(hB.block _ (by omega)).trans k2⟩
   ·
    rw [HX.out,HS.out,← HN3.out]
    refine ⟨e1,e2,⟨HBK.out.1,(hu.block g HBK.out.lt (by omega)).trans HBK.out.2⟩,?_,(UpdQ.of hB).trans hWX,fun b z => ?_,HVL.out.short,HVL.out.few,HVL.out.base,HVL.out.fit,HVL.out.snap⟩
    ·
     refine hu.rows (HUP.out.rows HVL.out.own fun b z => ?_) fun b z => ?_
     ·
      have := HVL.out.pv b z
      omega
     ·
      have := HVL.out.pv b z
      omega
    ·
     have := HVL.out.pv b z
     omega
 case done =>
  rintro D ys W hD rfl ⟨hpre,hB⟩ hK
  have hW4 := hB.size
  have m1 := (hB.block (w.heap.size + 1) (by omega)).trans k1
  have m2 := (hB.block (w.heap.size + 1 + 1) (by omega)).trans k2
  have d1 : W.cell? ⟨w.heap.size + 1,0,none⟩ = some (.bool false) := by rw [cell_of_row W _ _ _ _ _ m1]; rfl
  have d2 : W.cell? ⟨w.heap.size + 1 + 1,0,none⟩ = some (.int .i64 0) := by rw [cell_of_row W _ _ _ _ _ m2]; rfl
  have f1 := frozen_of_row W (w.heap.size + 1) 0 _ _ m1
  have f2 := frozen_of_row W (w.heap.size + 1 + 1) 0 _ _ m2
  have hbw := bchain hb4 hB
  clear m1 m2
  gi_wp2_with fail
  have hK' := (KeepsOthers.setCell (W.setCell ⟨w.heap.size + 1,0,none⟩ (.bool false)) ⟨w.heap.size + 1 + 1,0,none⟩ (.int .i64 0)).same D _ ((KeepsOthers.setCell W ⟨w.heap.size + 1,0,none⟩ (.bool false)).same D _ hK rfl) rfl
  refine ⟨by simp,.inl ⟨_,_,rfl,run_takeDeferred hK',?_⟩⟩
  have x1 : ((W.setCell ⟨w.heap.size + 1,0,none⟩ (.bool false)).setCell ⟨w.heap.size + 1 + 1,0,none⟩ (.int .i64 0)).cell? ⟨w.heap.size + 1,0,none⟩ = some (.bool false) := by
   rw [World.cell?_of_block (heap_setCell_other _ _ _ _ (show w.heap.size + 1 ≠ w.heap.size + 1 + 1 by omega))]
   exact World.cell?_setCell_same' _ _ _ (by rw [d1]; rfl)
  have x2 : ((W.setCell ⟨w.heap.size + 1,0,none⟩ (.bool false)).setCell ⟨w.heap.size + 1 + 1,0,none⟩ (.int .i64 0)).cell? ⟨w.heap.size + 1 + 1,0,none⟩ = some (.int .i64 0) := by
   refine World.cell?_setCell_same' _ _ _ ?_
   rw [World.cell?_of_block (heap_setCell_other _ _ _ _ (show w.heap.size + 1 + 1 ≠ w.heap.size + 1 by omega)),d2]
   rfl
  have hc1 := cell_kept x1 (grownBy_putObj' _ D (.deferred none)) (fun r e => by cases e; exact ⟨_,hK',rfl⟩)
  have hc2 := cell_kept x2 (grownBy_putObj' _ D (.deferred none)) (fun r e => by cases e; exact ⟨_,hK',rfl⟩)
  have hfin : Below w.heap.size w (((W.setCell ⟨w.heap.size + 1,0,none⟩ (.bool false)).setCell ⟨w.heap.size + 1 + 1,0,none⟩ (.int .i64 0)).putObj D (.deferred none)) := ((hbw.setCell (p := ⟨w.heap.size + 1,0,none⟩) (by show w.heap.size ≤ w.heap.size + 1; omega) _).setCell (p := ⟨w.heap.size + 1 + 1,0,none⟩) (by show w.heap.size ≤ w.heap.size + 1 + 1; omega) _).trans (belowK_b (w := w) (Nat.le_refl _) _ D _ _ (by omega) hK' rfl rfl)
  rw [findL_all HM.out hpre]
  refine ⟨.tuple #[.bool false,.int .i64 0],?_,rfl,(h.later hfin).mono fun b z => .inl z,UpdQ.of hfin⟩
  simp [results,Tryz.f41,go_sem,hc1,hc2]
 case stop =>
  rintro D c pre W hD hpre ⟨rfl,pre',x,rfl,h1,h2,v,hF⟩ hK
  have hF' := hF.turn (grownBy_putObj' W D (.deferred none)) (fun r e => by cases e; exact ⟨hD,_,hK,rfl⟩)
  obtain ⟨P,Q,hp⟩ := h
  have hw4 := hs4
  have hup : UpdQ P w (W.putObj D (.deferred none)) := upd_nw ((UpdQ.of hb4).trans (hF'.upd.mono fun b z => by
   rcases z with rfl | rfl | rfl
   · exact .inl hp.wal.pg
   · exact .inr (by omega)
   · exact .inr (by omega)))
  have hwal : Wal (nw P w) (W.putObj D (.deferred none)) g p (ks[x.val]'(HM.out ▸ x.isLt)) f (read (flOf d.fs (ks[x.val]'(HM.out ▸ x.isLt)))).1 := ⟨v,hF'.blk,hF'.own,.inl hp.wal.pg,fun b e => ⟨.inr (by have := (hF'.pv b e).1; omega),(hF'.pv b e).2⟩,hF'.short,hF'.few,hF'.base,hF'.fit,hF'.snap⟩
  have HE := Lib.hid (findL_come HM.out hpre h1 h2)
  have HT := Lib.hid (And.intro hp (And.intro hwal hup))
  have c1 := hF'.c1
  have c2 := hF'.c2
  clear hF hF' hp hwal hup hpre h1 h2
  gi_wp2_with fail
  refine ⟨by simp,.inl ⟨_,_,rfl,run_takeDeferred hK,?_⟩⟩
  rw [HE.out]
  refine ⟨_,?_,rfl,⟨_,_,HT.out.1.turn HT.out.2.1 HT.out.2.2⟩,HT.out.2.2.mono HT.out.1.pr⟩
  simp [results,Tryz.f41,go_sem,c1,c2]
end Go.Proofs.YtmhmajoghbgcfaaGreatDoor.Wl
