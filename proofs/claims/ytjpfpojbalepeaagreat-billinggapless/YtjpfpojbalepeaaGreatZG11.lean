import Derived.Test.YtjpfpojbalepeaaGreatZG10
set_option maxRecDepth 100000
set_option linter.unusedVariables false
namespace Go.Proofs.YtjpfpojbalepeaaGreat
open Go.RowKit
open Mem
open Go.Sort (grow)
theorem Bl.all_if {ops : Array Oper} {Q : Exit → Act → World → Prop} {S : World → Prop} {rs : List Nat} {fuel : Nat} {l : List Bool} {a : Act} {w : World} (hr : Region.ready .any ops l.toArray = rs) (hne : rs ≠ [])
  (h : ∀ i ∈ rs,∃ oi,ops[i]? = some oi ∧ ∀ K' : Act → World → Prop,Shut (∀ a w,S w → (S w → wpAnyH Tryz.prog .any ops Q S fuel (l.set i true).toArray a w) → K' a w) → if Region.wanted oi (yielded ops a.tmps) = true then Oper.wp Tryz.prog oi a w K' Q else K' (a.put oi.dst undef) w) :
  wpAnyH Tryz.prog .any ops Q S (fuel + 1) l.toArray a w := by
 refine wpAnyH_all hr hne fun i hi => ?_
 obtain ⟨oi,ho,hk⟩ := h i hi
 refine wpOp_step ho (fun K' hK => hk K' fun a w hS hW => hK a w ⟨hS,?_⟩)
 simpa using hW hS
theorem Bl.step_allocS {ops : Array Oper} {o : Oper} {a : Act} {w : World} {K : Act → World → Prop} {Q : Exit → Act → World → Prop} {E : Prop} (hgd : o.guard = none) (ho : o.op = .alloc 42) (k : K (a.put o.dst (.pointer (some ⟨w.heap.size,0,none⟩))) (Bl.box w Bl.zsv)) :
  if Region.wanted o (yielded ops a.tmps) = true then Oper.wp Tryz.prog o a w K Q else E := by
 have hw : Region.wanted o (yielded ops a.tmps) = true := by simp [Region.wanted,hgd]
 rw [if_pos hw]
 unfold Oper.wp
 simp only [execOp,ho]
 simp [go_sem]
 exact k
theorem Bl.step_allocR {ops : Array Oper} {o : Oper} {a : Act} {w : World} {K : Act → World → Prop} {Q : Exit → Act → World → Prop} {E : Prop} (hgd : o.guard = none) (ho : o.op = .alloc 49) (k : K (a.put o.dst (.pointer (some ⟨w.heap.size,0,none⟩))) (w.alloc (.cells #[.int .i64 0,.int .i64 0,.int .i64 0] 49))) :
  if Region.wanted o (yielded ops a.tmps) = true then Oper.wp Tryz.prog o a w K Q else E := by
 have hw : Region.wanted o (yielded ops a.tmps) = true := by simp [Region.wanted,hgd]
 rw [if_pos hw]
 unfold Oper.wp
 simp only [execOp,ho]
 simp [go_sem]
 exact k
theorem Bl.y_ext {ops : Array Oper} {o : Oper} {a : Act} {S : World → Prop} {t : Tmp} {v0 v1 : Value} (k : Nat) (hk : k = 0 ∨ k = 1) (hgd : o.guard = none) (ho : o.op = .extract (.tmp t) k) (hp : a.tmps.toList[t]? = some (.tuple #[v0,v1])) : YieldsIf Tryz.prog ops S o (if k = 0 then v0 else v1) a := by
 refine .inl ⟨by simp [Region.wanted,hgd],fun u _ => ?_⟩
 simp only [execOp,ho,Ca.evT hp]
 rcases hk with rfl | rfl
 · simp [go_sem]
 · simp [go_sem]
theorem Bl.xb {w : World} {X : List Nat} {n m : Nat} (h : ∀ x ∈ X,w.heap.size ≤ x ∧ x < n) (k : n ≤ m) : ∀ x ∈ X,w.heap.size ≤ x ∧ x < m := fun x hx => ⟨(h x hx).1,Nat.lt_of_lt_of_le (h x hx).2 k⟩
theorem Bl.xb_cons {w : World} {X : List Nat} {n m : Nat} (h : ∀ x ∈ X,w.heap.size ≤ x ∧ x < n) (hn : w.heap.size ≤ n) (k : n < m) : ∀ x ∈ n :: X,w.heap.size ≤ x ∧ x < m := by
 intro x hx
 rcases List.mem_cons.1 hx with rfl | hx
 · exact ⟨hn,k⟩
 · exact ⟨(h x hx).1,Nat.lt_trans (h x hx).2 k⟩
def Bl.chk12 (ops : Array Oper) : Bool := Region.noSelect ops && Bl.tk ops [false,false,false,false,false,false,false,false,false,false,false,false] 0 && Bl.tk ops [true,false,false,false,false,false,false,false,false,false,false,false] 1 && Bl.tk ops [true,true,false,false,false,false,false,false,false,false,false,false] 3 && (Region.ready .any ops [true,true,false,true,false,false,false,false,false,false,false,false].toArray == [2,8,9]) && (Region.ready .any ops [true,true,false,true,false,false,false,false,false,true,false,false].toArray == [2,8]) && (Region.ready .any ops [true,true,false,true,false,false,false,false,true,false,false,false].toArray == [2,9]) && (Region.ready .any ops [true,true,false,true,false,false,false,false,true,true,false,false].toArray == [2]) && (Region.ready .any ops [true,true,true,true,false,false,false,false,false,false,false,false].toArray == [4,8,9]) && (Region.ready .any ops [true,true,true,true,false,false,false,false,false,true,false,false].toArray == [4,8]) && (Region.ready .any ops [true,true,true,true,false,false,false,false,true,false,false,false].toArray == [4,9]) && (Region.ready .any ops [true,true,true,true,false,false,false,false,true,true,false,false].toArray == [4]) && (Region.ready .any ops [true,true,true,true,true,true,true,true,false,false,false,false].toArray == [8,9]) && (Region.ready .any ops [true,true,true,true,true,true,true,true,false,true,false,false].toArray == [8]) && (Region.ready .any ops [true,true,true,true,true,true,true,true,true,false,false,false].toArray == [9]) && Bl.tk ops [true,true,true,true,true,false,false,false,false,false,false,false] 5 && Bl.tk ops [true,true,true,true,true,true,false,false,false,false,false,false] 6 && Bl.tk ops [true,true,true,true,true,true,true,false,false,false,false,false] 7 && Bl.tk ops [true,true,true,true,true,false,false,false,false,true,false,false] 5 && Bl.tk ops [true,true,true,true,true,true,false,false,false,true,false,false] 6 && Bl.tk ops [true,true,true,true,true,true,true,false,false,true,false,false] 7 && Bl.tk ops [true,true,true,true,true,false,false,false,true,false,false,false] 5 && Bl.tk ops [true,true,true,true,true,true,false,false,true,false,false,false] 6 && Bl.tk ops [true,true,true,true,true,true,true,false,true,false,false,false] 7 && Bl.tk ops [true,true,true,true,true,false,false,false,true,true,false,false] 5 && Bl.tk ops [true,true,true,true,true,true,false,false,true,true,false,false] 6 && Bl.tk ops [true,true,true,true,true,true,true,false,true,true,false,false] 7 && (Region.ready .any ops [true,true,true,true,true,true,true,true,true,true,false,false].toArray == [10]) && (Region.ready .any ops [true,true,true,true,true,true,true,true,true,true,true,false].toArray == [11]) && (Region.ready .any ops [true,true,true,true,true,true,true,true,true,true,true,true].toArray == [])
theorem Bl.sw10_52 (X : Act) (p v : Value) : (X.put (some 10) p).put (some 52) v = (X.put (some 52) v).put (some 10) p := congrArg (fun t => (⟨t,X.defers⟩ : Act)) (Array.setIfInBounds_comm _ _ (by decide))
theorem Bl.sw10_54 (X : Act) (p v : Value) : (X.put (some 10) p).put (some 54) v = (X.put (some 54) v).put (some 10) p := congrArg (fun t => (⟨t,X.defers⟩ : Act)) (Array.setIfInBounds_comm _ _ (by decide))
theorem Bl.sw10_49 (X : Act) (p v : Value) : (X.put (some 10) p).put (some 49) v = (X.put (some 49) v).put (some 10) p := congrArg (fun t => (⟨t,X.defers⟩ : Act)) (Array.setIfInBounds_comm _ _ (by decide))
theorem Bl.sw10_55 (X : Act) (p v : Value) : (X.put (some 10) p).put (some 55) v = (X.put (some 55) v).put (some 10) p := congrArg (fun t => (⟨t,X.defers⟩ : Act)) (Array.setIfInBounds_comm _ _ (by decide))
theorem Bl.sw10_56 (X : Act) (p v : Value) : (X.put (some 10) p).put (some 56) v = (X.put (some 56) v).put (some 10) p := congrArg (fun t => (⟨t,X.defers⟩ : Act)) (Array.setIfInBounds_comm _ _ (by decide))
theorem Bl.sw11_52 (X : Act) (p v : Value) : (X.put (some 11) p).put (some 52) v = (X.put (some 52) v).put (some 11) p := congrArg (fun t => (⟨t,X.defers⟩ : Act)) (Array.setIfInBounds_comm _ _ (by decide))
theorem Bl.sw11_54 (X : Act) (p v : Value) : (X.put (some 11) p).put (some 54) v = (X.put (some 54) v).put (some 11) p := congrArg (fun t => (⟨t,X.defers⟩ : Act)) (Array.setIfInBounds_comm _ _ (by decide))
theorem Bl.sw11_49 (X : Act) (p v : Value) : (X.put (some 11) p).put (some 49) v = (X.put (some 49) v).put (some 11) p := congrArg (fun t => (⟨t,X.defers⟩ : Act)) (Array.setIfInBounds_comm _ _ (by decide))
theorem Bl.sw11_55 (X : Act) (p v : Value) : (X.put (some 11) p).put (some 55) v = (X.put (some 55) v).put (some 11) p := congrArg (fun t => (⟨t,X.defers⟩ : Act)) (Array.setIfInBounds_comm _ _ (by decide))
theorem Bl.sw11_56 (X : Act) (p v : Value) : (X.put (some 11) p).put (some 56) v = (X.put (some 56) v).put (some 11) p := congrArg (fun t => (⟨t,X.defers⟩ : Act)) (Array.setIfInBounds_comm _ _ (by decide))
theorem Bl.sw11_10 (X : Act) (p v : Value) : (X.put (some 11) p).put (some 10) v = (X.put (some 10) v).put (some 11) p := congrArg (fun t => (⟨t,X.defers⟩ : Act)) (Array.setIfInBounds_comm _ _ (by decide))
set_option maxHeartbeats 4000000 in
theorem Bl.wp_twice {id : Nat} {o0 o1 o2 o3 o4 o5 o6 o7 o8 o9 o10 o11 : Oper} {a : Act} {w : World} {Q : Exit → Act → World → Prop} {S : World → Prop} {J0 : List Nat → World → Prop} {J1 : List Nat → Bl.Sv → World → Prop} {J2 : List Nat → Bl.Sv → Rp.T → World → Prop} (v0 v1 v3 : Value) {f1 f2 : FuncId} {fn1 fn2 : Func} {c1 c2 : Code} {ty1 ty2 : Array TypeId}
  (hsz : a.tmps.size = 64) (hSB : ∀ u,Below w.heap.size w u → S u) (hSx : ∀ u b vs,w.heap.size ≤ b → S u → S (World.setRow u b vs)) (hJ : J0 [] w.drew) (hc : Bl.chk12 #[o0,o1,o2,o3,o4,o5,o6,o7,o8,o9,o10,o11] = true)
  (hd0 : o0.dst = some 50) (hd1 : o1.dst = some 51) (hd2 : o2.dst = some 52) (hd3 : o3.dst = some 53) (hd4 : o4.dst = some 54) (hd5 : o5.dst = some 49) (hd6 : o6.dst = some 55) (hd7 : o7.dst = some 56) (hd8 : o8.dst = some 10) (hd9 : o9.dst = some 11) (hg2 : o2.guard = none) (hg4 : o4.guard = none) (hg5 : o5.guard = none) (hg6 : o6.guard = none) (hg7 : o7.guard = none) (hg8 : o8.guard = none) (hg9 : o9.guard = none) (hg10 : o10.guard = none) (hg11 : o11.guard = none)
  (y0 : YieldsIf Tryz.prog #[o0,o1,o2,o3,o4,o5,o6,o7,o8,o9,o10,o11] S o0 v0 a) (y1 : YieldsIf Tryz.prog #[o0,o1,o2,o3,o4,o5,o6,o7,o8,o9,o10,o11] S o1 v1 (a.put (some 50) v0)) (y3 : YieldsIf Tryz.prog #[o0,o1,o2,o3,o4,o5,o6,o7,o8,o9,o10,o11] S o3 v3 ((a.put (some 50) v0).put (some 51) v1))
  (hQ : ∀ c a d v w,Q (.panic c) (Act.put a (some d) v) w → Q (.panic c) a w)
  (ho2 : o2.op = .call { callee := .value (.func f1), args := #[.tmp 50, .tmp 51], argTypes := ty1 }) (ho4 : o4.op = .call { callee := .value (.func f2), args := #[.tmp 52, .tmp 53], argTypes := ty2 }) (hf1 : Tryz.prog.funcs[f1]? = some fn1) (hn1 : (fn1.name == "runtime.NumGoroutine") = false) (hb1 : fn1.body = some c1) (hf2 : Tryz.prog.funcs[f2]? = some fn2) (hn2 : (fn2.name == "runtime.NumGoroutine") = false) (hb2 : fn2.body = some c2)
  (ho5 : o5.op = .move (.tmp 54)) (ho6 : o6.op = .extract (.tmp 49) 0) (ho7 : o7.op = .extract (.tmp 49) 1) (ho8 : o8.op = .alloc 42) (ho9 : o9.op = .alloc 49) (ho10 : o10.op = .store 42 (.tmp 10) (.tmp 55)) (ho11 : o11.op = .store 49 (.tmp 11) (.tmp 56)) (hd10 : o10.dst = none) (hd11 : o11.dst = none)
  (m1 : ∀ X u,Below w.heap.size w u → (∀ x ∈ X,w.heap.size ≤ x ∧ x < u.heap.size) → J0 X u → Calls Tryz.prog f1 #[v0,v1] u fun e u' => ∃ hm : Bl.Sv,e = .returned hm.val ∧ J1 X hm u' ∧ Below u.heap.size u u')
  (m2 : ∀ X hm u,Below w.heap.size w u → (∀ x ∈ X,w.heap.size ≤ x ∧ x < u.heap.size) → J1 X hm u → Calls Tryz.prog f2 #[Bl.Sv.val hm,v3] u fun e u' => ∃ (h' : Bl.Sv) (q : Rp.T),e = .returned (.tuple #[h'.val,Rp.val q]) ∧ J2 X h' q u' ∧ Below u.heap.size u u')
  (a0 : ∀ X u o,J0 X u → J0 (u.heap.size :: X) (World.alloc u o)) (a1 : ∀ X hm u o,J1 X hm u → J1 (u.heap.size :: X) hm (World.alloc u o)) (a2 : ∀ X h' q u o,J2 X h' q u → J2 (u.heap.size :: X) h' q (World.alloc u o))
  (k : ∀ X (hm h' : Bl.Sv) q u g10 g11,Below w.heap.size w u → J2 X h' q u → g10 ∈ X → g11 ∈ X → g10 ≠ g11 → w.heap.size ≤ g10 → w.heap.size ≤ g11 → Bl.At u g10 Bl.zsv → Rp.Bk u g11 ⟨0,0,0⟩ → Q .normal ((((((((((a.put (some 50) v0).put (some 51) v1).put (some 53) v3).put (some 52) hm.val).put (some 54) (.tuple #[h'.val,Rp.val q])).put (some 49) (.tuple #[h'.val,Rp.val q])).put (some 55) h'.val).put (some 56) (Rp.val q)).put (some 10) (.pointer (some ⟨g10,0,none⟩))).put (some 11) (.pointer (some ⟨g11,0,none⟩))) (Bl.out2 u g10 g11 h' q)) :
  (Code.region id #[o0,o1,o2,o3,o4,o5,o6,o7,o8,o9,o10,o11] true).wp Tryz.prog Q a w := by
 unfold Bl.chk12 at hc
 simp only [Bool.and_eq_true,beq_iff_eq] at hc
 obtain ⟨⟨⟨⟨⟨⟨⟨⟨⟨⟨⟨⟨⟨⟨⟨⟨⟨⟨⟨⟨⟨⟨⟨⟨⟨⟨⟨⟨⟨c0,c1⟩,c2⟩,c3⟩,c4⟩,c5⟩,c6⟩,c7⟩,c8⟩,c9⟩,c10⟩,c11⟩,c12⟩,c13⟩,c14⟩,c15⟩,c16⟩,c17⟩,c18⟩,c19⟩,c20⟩,c21⟩,c22⟩,c23⟩,c24⟩,c25⟩,c26⟩,c27⟩,c28⟩,c29⟩ := hc
 have hw0 : Below w.heap.size w w.drew := (Below.refl _ _).drew
 refine wp_region_held_drew (S := S) (by kernel_rfl) (hSB _ hw0) (fun hH => ?_)
 show wpAnyH Tryz.prog .any #[o0,o1,o2,o3,o4,o5,o6,o7,o8,o9,o10,o11] Q S 12 [false,false,false,false,false,false,false,false,false,false,false,false].toArray a w.drew
 refine Bl.take_if (i := 0) (oi := o0) rfl c0 c1 (by rw [hd0]; exact fun c a w => hQ c a _ _ w) y0 hH ?_
 rw [hd0]
 show wpAnyH Tryz.prog .any #[o0,o1,o2,o3,o4,o5,o6,o7,o8,o9,o10,o11] Q S 11 [true,false,false,false,false,false,false,false,false,false,false,false].toArray _ w.drew
 refine Bl.take_if (i := 1) (oi := o1) rfl c0 c2 (by rw [hd1]; exact fun c a w => hQ c a _ _ w) y1 hH ?_
 rw [hd1]
 show wpAnyH Tryz.prog .any #[o0,o1,o2,o3,o4,o5,o6,o7,o8,o9,o10,o11] Q S 10 [true,true,false,false,false,false,false,false,false,false,false,false].toArray _ w.drew
 refine Bl.take_if (i := 3) (oi := o3) rfl c0 c3 (by rw [hd3]; exact fun c a w => hQ c a _ _ w) y3 hH ?_
 rw [hd3]
 show wpAnyH Tryz.prog .any #[o0,o1,o2,o3,o4,o5,o6,o7,o8,o9,o10,o11] Q S 9 [true,true,false,true,false,false,false,false,false,false,false,false].toArray _ w.drew
 have J : J0 [] w.drew := hJ
 have BL := hw0
 have XB : ∀ x ∈ ([] : List Nat),w.heap.size ≤ x ∧ x < w.drew.heap.size := by simp
 refine Bl.all_if (rs := [2,8,9]) c4 (by simp) ?_
 intro i hi
 simp only [List.mem_cons,List.not_mem_nil,or_false] at hi
 rcases hi with rfl | rfl | rfl
 ·
  refine ⟨o2,rfl,fun K hK => ?_⟩
  refine Bl.step_call hg2 (Bl.enters ho2 (vs := #[v0,v1]) (by simp [Act.eval,Act.put,hsz,Array.getD_eq_getD_getElem?]) hf1 hn1 hb1 _) ((m1 [] _ BL XB J).mono ?_)
  rintro e u1 ⟨hm,rfl,j1,b⟩
  have BL' := bchain BL b
  refine ⟨_,rfl,hK.out _ _ (hSB _ BL') fun _ => ?_⟩
  clear hK K
  rw [hd2]
  show wpAnyH Tryz.prog .any #[o0,o1,o2,o3,o4,o5,o6,o7,o8,o9,o10,o11] Q S 8 [true,true,true,true,false,false,false,false,false,false,false,false].toArray _ _
  have XB := Bl.xb XB b.size
  have J := j1
  have BL := BL'
  clear BL' j1 b
  refine Bl.all_if (rs := [4,8,9]) c8 (by simp) ?_
  intro i hi
  simp only [List.mem_cons,List.not_mem_nil,or_false] at hi
  rcases hi with rfl | rfl | rfl
  ·
   refine ⟨o4,rfl,fun K hK => ?_⟩
   refine Bl.step_call hg4 (Bl.enters ho4 (vs := #[hm.val,v3]) (by simp [Act.eval,Act.put,hsz,Array.getD_eq_getD_getElem?]) hf2 hn2 hb2 _) ((m2 [] hm _ BL XB J).mono ?_)
   rintro e u2 ⟨h',q,rfl,j1,b⟩
   have BL' := bchain BL b
   have hS2 := hSB _ BL'
   refine ⟨_,rfl,hK.out _ _ hS2 fun _ => ?_⟩
   clear hK K
   rw [hd4]
   show wpAnyH Tryz.prog .any #[o0,o1,o2,o3,o4,o5,o6,o7,o8,o9,o10,o11] Q S 7 [true,true,true,true,true,false,false,false,false,false,false,false].toArray _ _
   refine Bl.take_if (i := 5) (oi := o5) (v := .tuple #[h'.val,Rp.val q]) rfl c0 c15 (by rw [hd5]; exact fun c a w => hQ c a _ _ w) (Bl.y_move hg5 ho5 (by simp [Act.put,hsz])) hS2 ?_
   rw [hd5]
   show wpAnyH Tryz.prog .any #[o0,o1,o2,o3,o4,o5,o6,o7,o8,o9,o10,o11] Q S 6 [true,true,true,true,true,true,false,false,false,false,false,false].toArray _ _
   refine Bl.take_if (i := 6) (oi := o6) (v := h'.val) rfl c0 c16 (by rw [hd6]; exact fun c a w => hQ c a _ _ w) (Bl.y_ext 0 (.inl rfl) hg6 ho6 (v0 := h'.val) (v1 := Rp.val q) (by simp [Act.put,hsz])) hS2 ?_
   rw [hd6]
   show wpAnyH Tryz.prog .any #[o0,o1,o2,o3,o4,o5,o6,o7,o8,o9,o10,o11] Q S 5 [true,true,true,true,true,true,true,false,false,false,false,false].toArray _ _
   refine Bl.take_if (i := 7) (oi := o7) (v := Rp.val q) rfl c0 c17 (by rw [hd7]; exact fun c a w => hQ c a _ _ w) (Bl.y_ext 1 (.inr rfl) hg7 ho7 (v0 := h'.val) (v1 := Rp.val q) (by simp [Act.put,hsz])) hS2 ?_
   rw [hd7]
   show wpAnyH Tryz.prog .any #[o0,o1,o2,o3,o4,o5,o6,o7,o8,o9,o10,o11] Q S 4 [true,true,true,true,true,true,true,true,false,false,false,false].toArray _ _
   have XB := Bl.xb XB b.size
   have J := j1
   have BL := BL'
   clear BL' j1 b hS2
   refine Bl.all_if (rs := [8,9]) c12 (by simp) ?_
   intro i hi
   simp only [List.mem_cons,List.not_mem_nil,or_false] at hi
   rcases hi with rfl | rfl
   ·
    refine ⟨o8,rfl,fun K hK => ?_⟩
    have b : Below u2.heap.size u2 (Bl.box u2 Bl.zsv) := (Below.refl _ _).alloc (Nat.le_refl _) _
    have BL' := bchain BL b
    refine Bl.step_allocS hg8 ho8 (hK.out _ _ (hSB _ BL') fun _ => ?_)
    clear hK K
    rw [hd8]
    show wpAnyH Tryz.prog .any #[o0,o1,o2,o3,o4,o5,o6,o7,o8,o9,o10,o11] Q S 3 [true,true,true,true,true,true,true,true,true,false,false,false].toArray _ _
    have D : Bl.At (Bl.box u2 Bl.zsv) u2.heap.size Bl.zsv := Bl.at_box u2 Bl.zsv
    have L8 : w.heap.size ≤ u2.heap.size := BL.size
    have XB : ∀ x ∈ (u2.heap.size :: []),w.heap.size ≤ x ∧ x < (Bl.box u2 Bl.zsv).heap.size := Bl.xb_cons XB BL.size (by simp [Bl.box])
    have J : J2 (u2.heap.size :: []) h' q (Bl.box u2 Bl.zsv) := a2 _ _ _ _ _ J
    have BL := BL'
    clear BL'
    clear b
    refine Bl.all_if (rs := [9]) c14 (by simp) ?_
    intro i hi
    simp only [List.mem_cons,List.not_mem_nil,or_false] at hi
    rcases hi with rfl
    ·
     refine ⟨o9,rfl,fun K hK => ?_⟩
     have b : Below (Bl.box u2 Bl.zsv).heap.size (Bl.box u2 Bl.zsv) ((Bl.box u2 Bl.zsv).alloc (.cells #[.int .i64 0,.int .i64 0,.int .i64 0] 49)) := (Below.refl _ _).alloc (Nat.le_refl _) _
     have BL' := bchain BL b
     refine Bl.step_allocR hg9 ho9 (hK.out _ _ (hSB _ BL') fun _ => ?_)
     clear hK K
     rw [hd9]
     show wpAnyH Tryz.prog .any #[o0,o1,o2,o3,o4,o5,o6,o7,o8,o9,o10,o11] Q S 2 [true,true,true,true,true,true,true,true,true,true,false,false].toArray _ _
     have E : Rp.Bk ((Bl.box u2 Bl.zsv).alloc (.cells #[.int .i64 0,.int .i64 0,.int .i64 0] 49)) (Bl.box u2 Bl.zsv).heap.size ⟨0,0,0⟩ := heap_alloc_new (Bl.box u2 Bl.zsv) _
     have L9 : w.heap.size ≤ (Bl.box u2 Bl.zsv).heap.size := BL.size
     have N8 := D.lt
     have D := D.below b
     have XB : ∀ x ∈ ((Bl.box u2 Bl.zsv).heap.size :: (u2.heap.size :: [])),w.heap.size ≤ x ∧ x < ((Bl.box u2 Bl.zsv).alloc (.cells #[.int .i64 0,.int .i64 0,.int .i64 0] 49)).heap.size := Bl.xb_cons XB BL.size (by simp)
     have J : J2 ((Bl.box u2 Bl.zsv).heap.size :: (u2.heap.size :: [])) h' q ((Bl.box u2 Bl.zsv).alloc (.cells #[.int .i64 0,.int .i64 0,.int .i64 0] 49)) := a2 _ _ _ _ _ J
     have BL := BL'
     clear BL'
     clear b
     refine Bl.one_if (i := 10) (oi := o10) rfl c27 (fun K hK => ?_)
     refine Bl.step_put hg10 ho10 hd10 (h := h') (by simp [Act.put,hsz]) (by simp [Act.put,hsz]) D (hK.out _ _ (hSx _ _ _ L8 (hSB _ BL)) fun hS2 => ?_)
     clear hK K
     show wpAnyH Tryz.prog .any #[o0,o1,o2,o3,o4,o5,o6,o7,o8,o9,o10,o11] Q S 1 [true,true,true,true,true,true,true,true,true,true,true,false].toArray _ _
     refine Bl.one_if (i := 11) (oi := o11) rfl c28 (fun K hK => ?_)
     refine Rp.step_put hg11 ho11 hd11 (r := q) (by simp [Act.put,hsz]) (by simp [Act.put,hsz]) (E.other (by omega) _) (hK.out _ _ (hSx _ _ _ L9 hS2) fun hS3 => ?_)
     clear hK K
     show wpAnyH Tryz.prog .any #[o0,o1,o2,o3,o4,o5,o6,o7,o8,o9,o10,o11] Q S 0 [true,true,true,true,true,true,true,true,true,true,true,true].toArray _ _
     refine wpAnyH_done c29 ?_ _
     try simp only [Bl.sw10_52,Bl.sw10_54,Bl.sw10_49,Bl.sw10_55,Bl.sw10_56,Bl.sw11_52,Bl.sw11_54,Bl.sw11_49,Bl.sw11_55,Bl.sw11_56,Bl.sw11_10]
     exact k _ hm h' q _ _ _ BL J (by simp) (by simp) (by omega) L8 L9 D E
   ·
    refine ⟨o9,rfl,fun K hK => ?_⟩
    have b : Below u2.heap.size u2 (u2.alloc (.cells #[.int .i64 0,.int .i64 0,.int .i64 0] 49)) := (Below.refl _ _).alloc (Nat.le_refl _) _
    have BL' := bchain BL b
    refine Bl.step_allocR hg9 ho9 (hK.out _ _ (hSB _ BL') fun _ => ?_)
    clear hK K
    rw [hd9]
    show wpAnyH Tryz.prog .any #[o0,o1,o2,o3,o4,o5,o6,o7,o8,o9,o10,o11] Q S 3 [true,true,true,true,true,true,true,true,false,true,false,false].toArray _ _
    have E : Rp.Bk (u2.alloc (.cells #[.int .i64 0,.int .i64 0,.int .i64 0] 49)) u2.heap.size ⟨0,0,0⟩ := heap_alloc_new u2 _
    have L9 : w.heap.size ≤ u2.heap.size := BL.size
    have XB : ∀ x ∈ (u2.heap.size :: []),w.heap.size ≤ x ∧ x < (u2.alloc (.cells #[.int .i64 0,.int .i64 0,.int .i64 0] 49)).heap.size := Bl.xb_cons XB BL.size (by simp)
    have J : J2 (u2.heap.size :: []) h' q (u2.alloc (.cells #[.int .i64 0,.int .i64 0,.int .i64 0] 49)) := a2 _ _ _ _ _ J
    have BL := BL'
    clear BL'
    clear b
    refine Bl.all_if (rs := [8]) c13 (by simp) ?_
    intro i hi
    simp only [List.mem_cons,List.not_mem_nil,or_false] at hi
    rcases hi with rfl
    ·
     refine ⟨o8,rfl,fun K hK => ?_⟩
     have b : Below (u2.alloc (.cells #[.int .i64 0,.int .i64 0,.int .i64 0] 49)).heap.size (u2.alloc (.cells #[.int .i64 0,.int .i64 0,.int .i64 0] 49)) (Bl.box (u2.alloc (.cells #[.int .i64 0,.int .i64 0,.int .i64 0] 49)) Bl.zsv) := (Below.refl _ _).alloc (Nat.le_refl _) _
     have BL' := bchain BL b
     refine Bl.step_allocS hg8 ho8 (hK.out _ _ (hSB _ BL') fun _ => ?_)
     clear hK K
     rw [hd8]
     show wpAnyH Tryz.prog .any #[o0,o1,o2,o3,o4,o5,o6,o7,o8,o9,o10,o11] Q S 2 [true,true,true,true,true,true,true,true,true,true,false,false].toArray _ _
     have D : Bl.At (Bl.box (u2.alloc (.cells #[.int .i64 0,.int .i64 0,.int .i64 0] 49)) Bl.zsv) (u2.alloc (.cells #[.int .i64 0,.int .i64 0,.int .i64 0] 49)).heap.size Bl.zsv := Bl.at_box (u2.alloc (.cells #[.int .i64 0,.int .i64 0,.int .i64 0] 49)) Bl.zsv
     have L8 : w.heap.size ≤ (u2.alloc (.cells #[.int .i64 0,.int .i64 0,.int .i64 0] 49)).heap.size := BL.size
     have N9 := E.lt
     have E := E.below b
     have XB : ∀ x ∈ ((u2.alloc (.cells #[.int .i64 0,.int .i64 0,.int .i64 0] 49)).heap.size :: (u2.heap.size :: [])),w.heap.size ≤ x ∧ x < (Bl.box (u2.alloc (.cells #[.int .i64 0,.int .i64 0,.int .i64 0] 49)) Bl.zsv).heap.size := Bl.xb_cons XB BL.size (by simp [Bl.box])
     have J : J2 ((u2.alloc (.cells #[.int .i64 0,.int .i64 0,.int .i64 0] 49)).heap.size :: (u2.heap.size :: [])) h' q (Bl.box (u2.alloc (.cells #[.int .i64 0,.int .i64 0,.int .i64 0] 49)) Bl.zsv) := a2 _ _ _ _ _ J
     have BL := BL'
     clear BL'
     clear b
     refine Bl.one_if (i := 10) (oi := o10) rfl c27 (fun K hK => ?_)
     refine Bl.step_put hg10 ho10 hd10 (h := h') (by simp [Act.put,hsz]) (by simp [Act.put,hsz]) D (hK.out _ _ (hSx _ _ _ L8 (hSB _ BL)) fun hS2 => ?_)
     clear hK K
     show wpAnyH Tryz.prog .any #[o0,o1,o2,o3,o4,o5,o6,o7,o8,o9,o10,o11] Q S 1 [true,true,true,true,true,true,true,true,true,true,true,false].toArray _ _
     refine Bl.one_if (i := 11) (oi := o11) rfl c28 (fun K hK => ?_)
     refine Rp.step_put hg11 ho11 hd11 (r := q) (by simp [Act.put,hsz]) (by simp [Act.put,hsz]) (E.other (by omega) _) (hK.out _ _ (hSx _ _ _ L9 hS2) fun hS3 => ?_)
     clear hK K
     show wpAnyH Tryz.prog .any #[o0,o1,o2,o3,o4,o5,o6,o7,o8,o9,o10,o11] Q S 0 [true,true,true,true,true,true,true,true,true,true,true,true].toArray _ _
     refine wpAnyH_done c29 ?_ _
     try simp only [Bl.sw11_10]
     exact k _ hm h' q _ _ _ BL J (by simp) (by simp) (by omega) L8 L9 D E
  ·
   refine ⟨o8,rfl,fun K hK => ?_⟩
   have b : Below u1.heap.size u1 (Bl.box u1 Bl.zsv) := (Below.refl _ _).alloc (Nat.le_refl _) _
   have BL' := bchain BL b
   refine Bl.step_allocS hg8 ho8 (hK.out _ _ (hSB _ BL') fun _ => ?_)
   clear hK K
   rw [hd8]
   show wpAnyH Tryz.prog .any #[o0,o1,o2,o3,o4,o5,o6,o7,o8,o9,o10,o11] Q S 7 [true,true,true,true,false,false,false,false,true,false,false,false].toArray _ _
   have D : Bl.At (Bl.box u1 Bl.zsv) u1.heap.size Bl.zsv := Bl.at_box u1 Bl.zsv
   have L8 : w.heap.size ≤ u1.heap.size := BL.size
   have XB : ∀ x ∈ (u1.heap.size :: []),w.heap.size ≤ x ∧ x < (Bl.box u1 Bl.zsv).heap.size := Bl.xb_cons XB BL.size (by simp [Bl.box])
   have J : J1 (u1.heap.size :: []) hm (Bl.box u1 Bl.zsv) := a1 _ _ _ _ J
   have BL := BL'
   clear BL'
   clear b
   refine Bl.all_if (rs := [4,9]) c10 (by simp) ?_
   intro i hi
   simp only [List.mem_cons,List.not_mem_nil,or_false] at hi
   rcases hi with rfl | rfl
   ·
    refine ⟨o4,rfl,fun K hK => ?_⟩
    refine Bl.step_call hg4 (Bl.enters ho4 (vs := #[hm.val,v3]) (by simp [Act.eval,Act.put,hsz,Array.getD_eq_getD_getElem?]) hf2 hn2 hb2 _) ((m2 (u1.heap.size :: []) hm _ BL XB J).mono ?_)
    rintro e u8 ⟨h',q,rfl,j1,b⟩
    have BL' := bchain BL b
    have hS2 := hSB _ BL'
    refine ⟨_,rfl,hK.out _ _ hS2 fun _ => ?_⟩
    clear hK K
    rw [hd4]
    show wpAnyH Tryz.prog .any #[o0,o1,o2,o3,o4,o5,o6,o7,o8,o9,o10,o11] Q S 6 [true,true,true,true,true,false,false,false,true,false,false,false].toArray _ _
    refine Bl.take_if (i := 5) (oi := o5) (v := .tuple #[h'.val,Rp.val q]) rfl c0 c21 (by rw [hd5]; exact fun c a w => hQ c a _ _ w) (Bl.y_move hg5 ho5 (by simp [Act.put,hsz])) hS2 ?_
    rw [hd5]
    show wpAnyH Tryz.prog .any #[o0,o1,o2,o3,o4,o5,o6,o7,o8,o9,o10,o11] Q S 5 [true,true,true,true,true,true,false,false,true,false,false,false].toArray _ _
    refine Bl.take_if (i := 6) (oi := o6) (v := h'.val) rfl c0 c22 (by rw [hd6]; exact fun c a w => hQ c a _ _ w) (Bl.y_ext 0 (.inl rfl) hg6 ho6 (v0 := h'.val) (v1 := Rp.val q) (by simp [Act.put,hsz])) hS2 ?_
    rw [hd6]
    show wpAnyH Tryz.prog .any #[o0,o1,o2,o3,o4,o5,o6,o7,o8,o9,o10,o11] Q S 4 [true,true,true,true,true,true,true,false,true,false,false,false].toArray _ _
    refine Bl.take_if (i := 7) (oi := o7) (v := Rp.val q) rfl c0 c23 (by rw [hd7]; exact fun c a w => hQ c a _ _ w) (Bl.y_ext 1 (.inr rfl) hg7 ho7 (v0 := h'.val) (v1 := Rp.val q) (by simp [Act.put,hsz])) hS2 ?_
    rw [hd7]
    show wpAnyH Tryz.prog .any #[o0,o1,o2,o3,o4,o5,o6,o7,o8,o9,o10,o11] Q S 3 [true,true,true,true,true,true,true,true,true,false,false,false].toArray _ _
    have D := D.below b
    have XB := Bl.xb XB b.size
    have J := j1
    have BL := BL'
    clear BL' j1 b hS2
    refine Bl.all_if (rs := [9]) c14 (by simp) ?_
    intro i hi
    simp only [List.mem_cons,List.not_mem_nil,or_false] at hi
    rcases hi with rfl
    ·
     refine ⟨o9,rfl,fun K hK => ?_⟩
     have b : Below u8.heap.size u8 (u8.alloc (.cells #[.int .i64 0,.int .i64 0,.int .i64 0] 49)) := (Below.refl _ _).alloc (Nat.le_refl _) _
     have BL' := bchain BL b
     refine Bl.step_allocR hg9 ho9 (hK.out _ _ (hSB _ BL') fun _ => ?_)
     clear hK K
     rw [hd9]
     show wpAnyH Tryz.prog .any #[o0,o1,o2,o3,o4,o5,o6,o7,o8,o9,o10,o11] Q S 2 [true,true,true,true,true,true,true,true,true,true,false,false].toArray _ _
     have E : Rp.Bk (u8.alloc (.cells #[.int .i64 0,.int .i64 0,.int .i64 0] 49)) u8.heap.size ⟨0,0,0⟩ := heap_alloc_new u8 _
     have L9 : w.heap.size ≤ u8.heap.size := BL.size
     have N8 := D.lt
     have D := D.below b
     have XB : ∀ x ∈ (u8.heap.size :: (u1.heap.size :: [])),w.heap.size ≤ x ∧ x < (u8.alloc (.cells #[.int .i64 0,.int .i64 0,.int .i64 0] 49)).heap.size := Bl.xb_cons XB BL.size (by simp)
     have J : J2 (u8.heap.size :: (u1.heap.size :: [])) h' q (u8.alloc (.cells #[.int .i64 0,.int .i64 0,.int .i64 0] 49)) := a2 _ _ _ _ _ J
     have BL := BL'
     clear BL'
     clear b
     refine Bl.one_if (i := 10) (oi := o10) rfl c27 (fun K hK => ?_)
     refine Bl.step_put hg10 ho10 hd10 (h := h') (by simp [Act.put,hsz]) (by simp [Act.put,hsz]) D (hK.out _ _ (hSx _ _ _ L8 (hSB _ BL)) fun hS2 => ?_)
     clear hK K
     show wpAnyH Tryz.prog .any #[o0,o1,o2,o3,o4,o5,o6,o7,o8,o9,o10,o11] Q S 1 [true,true,true,true,true,true,true,true,true,true,true,false].toArray _ _
     refine Bl.one_if (i := 11) (oi := o11) rfl c28 (fun K hK => ?_)
     refine Rp.step_put hg11 ho11 hd11 (r := q) (by simp [Act.put,hsz]) (by simp [Act.put,hsz]) (E.other (by omega) _) (hK.out _ _ (hSx _ _ _ L9 hS2) fun hS3 => ?_)
     clear hK K
     show wpAnyH Tryz.prog .any #[o0,o1,o2,o3,o4,o5,o6,o7,o8,o9,o10,o11] Q S 0 [true,true,true,true,true,true,true,true,true,true,true,true].toArray _ _
     refine wpAnyH_done c29 ?_ _
     try simp only [Bl.sw10_54,Bl.sw10_49,Bl.sw10_55,Bl.sw10_56]
     exact k _ hm h' q _ _ _ BL J (by simp) (by simp) (by omega) L8 L9 D E
   ·
    refine ⟨o9,rfl,fun K hK => ?_⟩
    have b : Below (Bl.box u1 Bl.zsv).heap.size (Bl.box u1 Bl.zsv) ((Bl.box u1 Bl.zsv).alloc (.cells #[.int .i64 0,.int .i64 0,.int .i64 0] 49)) := (Below.refl _ _).alloc (Nat.le_refl _) _
    have BL' := bchain BL b
    refine Bl.step_allocR hg9 ho9 (hK.out _ _ (hSB _ BL') fun _ => ?_)
    clear hK K
    rw [hd9]
    show wpAnyH Tryz.prog .any #[o0,o1,o2,o3,o4,o5,o6,o7,o8,o9,o10,o11] Q S 6 [true,true,true,true,false,false,false,false,true,true,false,false].toArray _ _
    have E : Rp.Bk ((Bl.box u1 Bl.zsv).alloc (.cells #[.int .i64 0,.int .i64 0,.int .i64 0] 49)) (Bl.box u1 Bl.zsv).heap.size ⟨0,0,0⟩ := heap_alloc_new (Bl.box u1 Bl.zsv) _
    have L9 : w.heap.size ≤ (Bl.box u1 Bl.zsv).heap.size := BL.size
    have N8 := D.lt
    have D := D.below b
    have XB : ∀ x ∈ ((Bl.box u1 Bl.zsv).heap.size :: (u1.heap.size :: [])),w.heap.size ≤ x ∧ x < ((Bl.box u1 Bl.zsv).alloc (.cells #[.int .i64 0,.int .i64 0,.int .i64 0] 49)).heap.size := Bl.xb_cons XB BL.size (by simp)
    have J : J1 ((Bl.box u1 Bl.zsv).heap.size :: (u1.heap.size :: [])) hm ((Bl.box u1 Bl.zsv).alloc (.cells #[.int .i64 0,.int .i64 0,.int .i64 0] 49)) := a1 _ _ _ _ J
    have BL := BL'
    clear BL'
    clear b
    refine Bl.all_if (rs := [4]) c11 (by simp) ?_
    intro i hi
    simp only [List.mem_cons,List.not_mem_nil,or_false] at hi
    rcases hi with rfl
    ·
     refine ⟨o4,rfl,fun K hK => ?_⟩
     refine Bl.step_call hg4 (Bl.enters ho4 (vs := #[hm.val,v3]) (by simp [Act.eval,Act.put,hsz,Array.getD_eq_getD_getElem?]) hf2 hn2 hb2 _) ((m2 ((Bl.box u1 Bl.zsv).heap.size :: (u1.heap.size :: [])) hm _ BL XB J).mono ?_)
     rintro e u11 ⟨h',q,rfl,j1,b⟩
     have BL' := bchain BL b
     have hS2 := hSB _ BL'
     refine ⟨_,rfl,hK.out _ _ hS2 fun _ => ?_⟩
     clear hK K
     rw [hd4]
     show wpAnyH Tryz.prog .any #[o0,o1,o2,o3,o4,o5,o6,o7,o8,o9,o10,o11] Q S 5 [true,true,true,true,true,false,false,false,true,true,false,false].toArray _ _
     refine Bl.take_if (i := 5) (oi := o5) (v := .tuple #[h'.val,Rp.val q]) rfl c0 c24 (by rw [hd5]; exact fun c a w => hQ c a _ _ w) (Bl.y_move hg5 ho5 (by simp [Act.put,hsz])) hS2 ?_
     rw [hd5]
     show wpAnyH Tryz.prog .any #[o0,o1,o2,o3,o4,o5,o6,o7,o8,o9,o10,o11] Q S 4 [true,true,true,true,true,true,false,false,true,true,false,false].toArray _ _
     refine Bl.take_if (i := 6) (oi := o6) (v := h'.val) rfl c0 c25 (by rw [hd6]; exact fun c a w => hQ c a _ _ w) (Bl.y_ext 0 (.inl rfl) hg6 ho6 (v0 := h'.val) (v1 := Rp.val q) (by simp [Act.put,hsz])) hS2 ?_
     rw [hd6]
     show wpAnyH Tryz.prog .any #[o0,o1,o2,o3,o4,o5,o6,o7,o8,o9,o10,o11] Q S 3 [true,true,true,true,true,true,true,false,true,true,false,false].toArray _ _
     refine Bl.take_if (i := 7) (oi := o7) (v := Rp.val q) rfl c0 c26 (by rw [hd7]; exact fun c a w => hQ c a _ _ w) (Bl.y_ext 1 (.inr rfl) hg7 ho7 (v0 := h'.val) (v1 := Rp.val q) (by simp [Act.put,hsz])) hS2 ?_
     rw [hd7]
     show wpAnyH Tryz.prog .any #[o0,o1,o2,o3,o4,o5,o6,o7,o8,o9,o10,o11] Q S 2 [true,true,true,true,true,true,true,true,true,true,false,false].toArray _ _
     have D := D.below b
     have E := E.below b
     have XB := Bl.xb XB b.size
     have J := j1
     have BL := BL'
     clear BL' j1 b hS2
     refine Bl.one_if (i := 10) (oi := o10) rfl c27 (fun K hK => ?_)
     refine Bl.step_put hg10 ho10 hd10 (h := h') (by simp [Act.put,hsz]) (by simp [Act.put,hsz]) D (hK.out _ _ (hSx _ _ _ L8 (hSB _ BL)) fun hS2 => ?_)
     clear hK K
     show wpAnyH Tryz.prog .any #[o0,o1,o2,o3,o4,o5,o6,o7,o8,o9,o10,o11] Q S 1 [true,true,true,true,true,true,true,true,true,true,true,false].toArray _ _
     refine Bl.one_if (i := 11) (oi := o11) rfl c28 (fun K hK => ?_)
     refine Rp.step_put hg11 ho11 hd11 (r := q) (by simp [Act.put,hsz]) (by simp [Act.put,hsz]) (E.other (by omega) _) (hK.out _ _ (hSx _ _ _ L9 hS2) fun hS3 => ?_)
     clear hK K
     show wpAnyH Tryz.prog .any #[o0,o1,o2,o3,o4,o5,o6,o7,o8,o9,o10,o11] Q S 0 [true,true,true,true,true,true,true,true,true,true,true,true].toArray _ _
     refine wpAnyH_done c29 ?_ _
     try simp only [Bl.sw10_54,Bl.sw10_49,Bl.sw10_55,Bl.sw10_56,Bl.sw11_54,Bl.sw11_49,Bl.sw11_55,Bl.sw11_56]
     exact k _ hm h' q _ _ _ BL J (by simp) (by simp) (by omega) L8 L9 D E
  ·
   refine ⟨o9,rfl,fun K hK => ?_⟩
   have b : Below u1.heap.size u1 (u1.alloc (.cells #[.int .i64 0,.int .i64 0,.int .i64 0] 49)) := (Below.refl _ _).alloc (Nat.le_refl _) _
   have BL' := bchain BL b
   refine Bl.step_allocR hg9 ho9 (hK.out _ _ (hSB _ BL') fun _ => ?_)
   clear hK K
   rw [hd9]
   show wpAnyH Tryz.prog .any #[o0,o1,o2,o3,o4,o5,o6,o7,o8,o9,o10,o11] Q S 7 [true,true,true,true,false,false,false,false,false,true,false,false].toArray _ _
   have E : Rp.Bk (u1.alloc (.cells #[.int .i64 0,.int .i64 0,.int .i64 0] 49)) u1.heap.size ⟨0,0,0⟩ := heap_alloc_new u1 _
   have L9 : w.heap.size ≤ u1.heap.size := BL.size
   have XB : ∀ x ∈ (u1.heap.size :: []),w.heap.size ≤ x ∧ x < (u1.alloc (.cells #[.int .i64 0,.int .i64 0,.int .i64 0] 49)).heap.size := Bl.xb_cons XB BL.size (by simp)
   have J : J1 (u1.heap.size :: []) hm (u1.alloc (.cells #[.int .i64 0,.int .i64 0,.int .i64 0] 49)) := a1 _ _ _ _ J
   have BL := BL'
   clear BL'
   clear b
   refine Bl.all_if (rs := [4,8]) c9 (by simp) ?_
   intro i hi
   simp only [List.mem_cons,List.not_mem_nil,or_false] at hi
   rcases hi with rfl | rfl
   ·
    refine ⟨o4,rfl,fun K hK => ?_⟩
    refine Bl.step_call hg4 (Bl.enters ho4 (vs := #[hm.val,v3]) (by simp [Act.eval,Act.put,hsz,Array.getD_eq_getD_getElem?]) hf2 hn2 hb2 _) ((m2 (u1.heap.size :: []) hm _ BL XB J).mono ?_)
    rintro e u13 ⟨h',q,rfl,j1,b⟩
    have BL' := bchain BL b
    have hS2 := hSB _ BL'
    refine ⟨_,rfl,hK.out _ _ hS2 fun _ => ?_⟩
    clear hK K
    rw [hd4]
    show wpAnyH Tryz.prog .any #[o0,o1,o2,o3,o4,o5,o6,o7,o8,o9,o10,o11] Q S 6 [true,true,true,true,true,false,false,false,false,true,false,false].toArray _ _
    refine Bl.take_if (i := 5) (oi := o5) (v := .tuple #[h'.val,Rp.val q]) rfl c0 c18 (by rw [hd5]; exact fun c a w => hQ c a _ _ w) (Bl.y_move hg5 ho5 (by simp [Act.put,hsz])) hS2 ?_
    rw [hd5]
    show wpAnyH Tryz.prog .any #[o0,o1,o2,o3,o4,o5,o6,o7,o8,o9,o10,o11] Q S 5 [true,true,true,true,true,true,false,false,false,true,false,false].toArray _ _
    refine Bl.take_if (i := 6) (oi := o6) (v := h'.val) rfl c0 c19 (by rw [hd6]; exact fun c a w => hQ c a _ _ w) (Bl.y_ext 0 (.inl rfl) hg6 ho6 (v0 := h'.val) (v1 := Rp.val q) (by simp [Act.put,hsz])) hS2 ?_
    rw [hd6]
    show wpAnyH Tryz.prog .any #[o0,o1,o2,o3,o4,o5,o6,o7,o8,o9,o10,o11] Q S 4 [true,true,true,true,true,true,true,false,false,true,false,false].toArray _ _
    refine Bl.take_if (i := 7) (oi := o7) (v := Rp.val q) rfl c0 c20 (by rw [hd7]; exact fun c a w => hQ c a _ _ w) (Bl.y_ext 1 (.inr rfl) hg7 ho7 (v0 := h'.val) (v1 := Rp.val q) (by simp [Act.put,hsz])) hS2 ?_
    rw [hd7]
    show wpAnyH Tryz.prog .any #[o0,o1,o2,o3,o4,o5,o6,o7,o8,o9,o10,o11] Q S 3 [true,true,true,true,true,true,true,true,false,true,false,false].toArray _ _
    have E := E.below b
    have XB := Bl.xb XB b.size
    have J := j1
    have BL := BL'
    clear BL' j1 b hS2
    refine Bl.all_if (rs := [8]) c13 (by simp) ?_
    intro i hi
    simp only [List.mem_cons,List.not_mem_nil,or_false] at hi
    rcases hi with rfl
    ·
     refine ⟨o8,rfl,fun K hK => ?_⟩
     have b : Below u13.heap.size u13 (Bl.box u13 Bl.zsv) := (Below.refl _ _).alloc (Nat.le_refl _) _
     have BL' := bchain BL b
     refine Bl.step_allocS hg8 ho8 (hK.out _ _ (hSB _ BL') fun _ => ?_)
     clear hK K
     rw [hd8]
     show wpAnyH Tryz.prog .any #[o0,o1,o2,o3,o4,o5,o6,o7,o8,o9,o10,o11] Q S 2 [true,true,true,true,true,true,true,true,true,true,false,false].toArray _ _
     have D : Bl.At (Bl.box u13 Bl.zsv) u13.heap.size Bl.zsv := Bl.at_box u13 Bl.zsv
     have L8 : w.heap.size ≤ u13.heap.size := BL.size
     have N9 := E.lt
     have E := E.below b
     have XB : ∀ x ∈ (u13.heap.size :: (u1.heap.size :: [])),w.heap.size ≤ x ∧ x < (Bl.box u13 Bl.zsv).heap.size := Bl.xb_cons XB BL.size (by simp [Bl.box])
     have J : J2 (u13.heap.size :: (u1.heap.size :: [])) h' q (Bl.box u13 Bl.zsv) := a2 _ _ _ _ _ J
     have BL := BL'
     clear BL'
     clear b
     refine Bl.one_if (i := 10) (oi := o10) rfl c27 (fun K hK => ?_)
     refine Bl.step_put hg10 ho10 hd10 (h := h') (by simp [Act.put,hsz]) (by simp [Act.put,hsz]) D (hK.out _ _ (hSx _ _ _ L8 (hSB _ BL)) fun hS2 => ?_)
     clear hK K
     show wpAnyH Tryz.prog .any #[o0,o1,o2,o3,o4,o5,o6,o7,o8,o9,o10,o11] Q S 1 [true,true,true,true,true,true,true,true,true,true,true,false].toArray _ _
     refine Bl.one_if (i := 11) (oi := o11) rfl c28 (fun K hK => ?_)
     refine Rp.step_put hg11 ho11 hd11 (r := q) (by simp [Act.put,hsz]) (by simp [Act.put,hsz]) (E.other (by omega) _) (hK.out _ _ (hSx _ _ _ L9 hS2) fun hS3 => ?_)
     clear hK K
     show wpAnyH Tryz.prog .any #[o0,o1,o2,o3,o4,o5,o6,o7,o8,o9,o10,o11] Q S 0 [true,true,true,true,true,true,true,true,true,true,true,true].toArray _ _
     refine wpAnyH_done c29 ?_ _
     try simp only [Bl.sw11_54,Bl.sw11_49,Bl.sw11_55,Bl.sw11_56,Bl.sw11_10]
     exact k _ hm h' q _ _ _ BL J (by simp) (by simp) (by omega) L8 L9 D E
   ·
    refine ⟨o8,rfl,fun K hK => ?_⟩
    have b : Below (u1.alloc (.cells #[.int .i64 0,.int .i64 0,.int .i64 0] 49)).heap.size (u1.alloc (.cells #[.int .i64 0,.int .i64 0,.int .i64 0] 49)) (Bl.box (u1.alloc (.cells #[.int .i64 0,.int .i64 0,.int .i64 0] 49)) Bl.zsv) := (Below.refl _ _).alloc (Nat.le_refl _) _
    have BL' := bchain BL b
    refine Bl.step_allocS hg8 ho8 (hK.out _ _ (hSB _ BL') fun _ => ?_)
    clear hK K
    rw [hd8]
    show wpAnyH Tryz.prog .any #[o0,o1,o2,o3,o4,o5,o6,o7,o8,o9,o10,o11] Q S 6 [true,true,true,true,false,false,false,false,true,true,false,false].toArray _ _
    have D : Bl.At (Bl.box (u1.alloc (.cells #[.int .i64 0,.int .i64 0,.int .i64 0] 49)) Bl.zsv) (u1.alloc (.cells #[.int .i64 0,.int .i64 0,.int .i64 0] 49)).heap.size Bl.zsv := Bl.at_box (u1.alloc (.cells #[.int .i64 0,.int .i64 0,.int .i64 0] 49)) Bl.zsv
    have L8 : w.heap.size ≤ (u1.alloc (.cells #[.int .i64 0,.int .i64 0,.int .i64 0] 49)).heap.size := BL.size
    have N9 := E.lt
    have E := E.below b
    have XB : ∀ x ∈ ((u1.alloc (.cells #[.int .i64 0,.int .i64 0,.int .i64 0] 49)).heap.size :: (u1.heap.size :: [])),w.heap.size ≤ x ∧ x < (Bl.box (u1.alloc (.cells #[.int .i64 0,.int .i64 0,.int .i64 0] 49)) Bl.zsv).heap.size := Bl.xb_cons XB BL.size (by simp [Bl.box])
    have J : J1 ((u1.alloc (.cells #[.int .i64 0,.int .i64 0,.int .i64 0] 49)).heap.size :: (u1.heap.size :: [])) hm (Bl.box (u1.alloc (.cells #[.int .i64 0,.int .i64 0,.int .i64 0] 49)) Bl.zsv) := a1 _ _ _ _ J
    have BL := BL'
    clear BL'
    clear b
    refine Bl.all_if (rs := [4]) c11 (by simp) ?_
    intro i hi
    simp only [List.mem_cons,List.not_mem_nil,or_false] at hi
    rcases hi with rfl
    ·
     refine ⟨o4,rfl,fun K hK => ?_⟩
     refine Bl.step_call hg4 (Bl.enters ho4 (vs := #[hm.val,v3]) (by simp [Act.eval,Act.put,hsz,Array.getD_eq_getD_getElem?]) hf2 hn2 hb2 _) ((m2 ((u1.alloc (.cells #[.int .i64 0,.int .i64 0,.int .i64 0] 49)).heap.size :: (u1.heap.size :: [])) hm _ BL XB J).mono ?_)
     rintro e u16 ⟨h',q,rfl,j1,b⟩
     have BL' := bchain BL b
     have hS2 := hSB _ BL'
     refine ⟨_,rfl,hK.out _ _ hS2 fun _ => ?_⟩
     clear hK K
     rw [hd4]
     show wpAnyH Tryz.prog .any #[o0,o1,o2,o3,o4,o5,o6,o7,o8,o9,o10,o11] Q S 5 [true,true,true,true,true,false,false,false,true,true,false,false].toArray _ _
     refine Bl.take_if (i := 5) (oi := o5) (v := .tuple #[h'.val,Rp.val q]) rfl c0 c24 (by rw [hd5]; exact fun c a w => hQ c a _ _ w) (Bl.y_move hg5 ho5 (by simp [Act.put,hsz])) hS2 ?_
     rw [hd5]
     show wpAnyH Tryz.prog .any #[o0,o1,o2,o3,o4,o5,o6,o7,o8,o9,o10,o11] Q S 4 [true,true,true,true,true,true,false,false,true,true,false,false].toArray _ _
     refine Bl.take_if (i := 6) (oi := o6) (v := h'.val) rfl c0 c25 (by rw [hd6]; exact fun c a w => hQ c a _ _ w) (Bl.y_ext 0 (.inl rfl) hg6 ho6 (v0 := h'.val) (v1 := Rp.val q) (by simp [Act.put,hsz])) hS2 ?_
     rw [hd6]
     show wpAnyH Tryz.prog .any #[o0,o1,o2,o3,o4,o5,o6,o7,o8,o9,o10,o11] Q S 3 [true,true,true,true,true,true,true,false,true,true,false,false].toArray _ _
     refine Bl.take_if (i := 7) (oi := o7) (v := Rp.val q) rfl c0 c26 (by rw [hd7]; exact fun c a w => hQ c a _ _ w) (Bl.y_ext 1 (.inr rfl) hg7 ho7 (v0 := h'.val) (v1 := Rp.val q) (by simp [Act.put,hsz])) hS2 ?_
     rw [hd7]
     show wpAnyH Tryz.prog .any #[o0,o1,o2,o3,o4,o5,o6,o7,o8,o9,o10,o11] Q S 2 [true,true,true,true,true,true,true,true,true,true,false,false].toArray _ _
     have D := D.below b
     have E := E.below b
     have XB := Bl.xb XB b.size
     have J := j1
     have BL := BL'
     clear BL' j1 b hS2
     refine Bl.one_if (i := 10) (oi := o10) rfl c27 (fun K hK => ?_)
     refine Bl.step_put hg10 ho10 hd10 (h := h') (by simp [Act.put,hsz]) (by simp [Act.put,hsz]) D (hK.out _ _ (hSx _ _ _ L8 (hSB _ BL)) fun hS2 => ?_)
     clear hK K
     show wpAnyH Tryz.prog .any #[o0,o1,o2,o3,o4,o5,o6,o7,o8,o9,o10,o11] Q S 1 [true,true,true,true,true,true,true,true,true,true,true,false].toArray _ _
     refine Bl.one_if (i := 11) (oi := o11) rfl c28 (fun K hK => ?_)
     refine Rp.step_put hg11 ho11 hd11 (r := q) (by simp [Act.put,hsz]) (by simp [Act.put,hsz]) (E.other (by omega) _) (hK.out _ _ (hSx _ _ _ L9 hS2) fun hS3 => ?_)
     clear hK K
     show wpAnyH Tryz.prog .any #[o0,o1,o2,o3,o4,o5,o6,o7,o8,o9,o10,o11] Q S 0 [true,true,true,true,true,true,true,true,true,true,true,true].toArray _ _
     refine wpAnyH_done c29 ?_ _
     try simp only [Bl.sw10_54,Bl.sw10_49,Bl.sw10_55,Bl.sw10_56,Bl.sw11_54,Bl.sw11_49,Bl.sw11_55,Bl.sw11_56,Bl.sw11_10]
     exact k _ hm h' q _ _ _ BL J (by simp) (by simp) (by omega) L8 L9 D E
 ·
  refine ⟨o8,rfl,fun K hK => ?_⟩
  have b : Below w.drew.heap.size w.drew (Bl.box w.drew Bl.zsv) := (Below.refl _ _).alloc (Nat.le_refl _) _
  have BL' := bchain BL b
  refine Bl.step_allocS hg8 ho8 (hK.out _ _ (hSB _ BL') fun _ => ?_)
  clear hK K
  rw [hd8]
  show wpAnyH Tryz.prog .any #[o0,o1,o2,o3,o4,o5,o6,o7,o8,o9,o10,o11] Q S 8 [true,true,false,true,false,false,false,false,true,false,false,false].toArray _ _
  have D : Bl.At (Bl.box w.drew Bl.zsv) w.drew.heap.size Bl.zsv := Bl.at_box w.drew Bl.zsv
  have L8 : w.heap.size ≤ w.drew.heap.size := BL.size
  have XB : ∀ x ∈ (w.drew.heap.size :: []),w.heap.size ≤ x ∧ x < (Bl.box w.drew Bl.zsv).heap.size := Bl.xb_cons XB BL.size (by simp [Bl.box])
  have J : J0 (w.drew.heap.size :: []) (Bl.box w.drew Bl.zsv) := a0 _ _ _ J
  have BL := BL'
  clear BL'
  clear b
  refine Bl.all_if (rs := [2,9]) c6 (by simp) ?_
  intro i hi
  simp only [List.mem_cons,List.not_mem_nil,or_false] at hi
  rcases hi with rfl | rfl
  ·
   refine ⟨o2,rfl,fun K hK => ?_⟩
   refine Bl.step_call hg2 (Bl.enters ho2 (vs := #[v0,v1]) (by simp [Act.eval,Act.put,hsz,Array.getD_eq_getD_getElem?]) hf1 hn1 hb1 _) ((m1 (w.drew.heap.size :: []) _ BL XB J).mono ?_)
   rintro e u18 ⟨hm,rfl,j1,b⟩
   have BL' := bchain BL b
   refine ⟨_,rfl,hK.out _ _ (hSB _ BL') fun _ => ?_⟩
   clear hK K
   rw [hd2]
   show wpAnyH Tryz.prog .any #[o0,o1,o2,o3,o4,o5,o6,o7,o8,o9,o10,o11] Q S 7 [true,true,true,true,false,false,false,false,true,false,false,false].toArray _ _
   have D := D.below b
   have XB := Bl.xb XB b.size
   have J := j1
   have BL := BL'
   clear BL' j1 b
   refine Bl.all_if (rs := [4,9]) c10 (by simp) ?_
   intro i hi
   simp only [List.mem_cons,List.not_mem_nil,or_false] at hi
   rcases hi with rfl | rfl
   ·
    refine ⟨o4,rfl,fun K hK => ?_⟩
    refine Bl.step_call hg4 (Bl.enters ho4 (vs := #[hm.val,v3]) (by simp [Act.eval,Act.put,hsz,Array.getD_eq_getD_getElem?]) hf2 hn2 hb2 _) ((m2 (w.drew.heap.size :: []) hm _ BL XB J).mono ?_)
    rintro e u19 ⟨h',q,rfl,j1,b⟩
    have BL' := bchain BL b
    have hS2 := hSB _ BL'
    refine ⟨_,rfl,hK.out _ _ hS2 fun _ => ?_⟩
    clear hK K
    rw [hd4]
    show wpAnyH Tryz.prog .any #[o0,o1,o2,o3,o4,o5,o6,o7,o8,o9,o10,o11] Q S 6 [true,true,true,true,true,false,false,false,true,false,false,false].toArray _ _
    refine Bl.take_if (i := 5) (oi := o5) (v := .tuple #[h'.val,Rp.val q]) rfl c0 c21 (by rw [hd5]; exact fun c a w => hQ c a _ _ w) (Bl.y_move hg5 ho5 (by simp [Act.put,hsz])) hS2 ?_
    rw [hd5]
    show wpAnyH Tryz.prog .any #[o0,o1,o2,o3,o4,o5,o6,o7,o8,o9,o10,o11] Q S 5 [true,true,true,true,true,true,false,false,true,false,false,false].toArray _ _
    refine Bl.take_if (i := 6) (oi := o6) (v := h'.val) rfl c0 c22 (by rw [hd6]; exact fun c a w => hQ c a _ _ w) (Bl.y_ext 0 (.inl rfl) hg6 ho6 (v0 := h'.val) (v1 := Rp.val q) (by simp [Act.put,hsz])) hS2 ?_
    rw [hd6]
    show wpAnyH Tryz.prog .any #[o0,o1,o2,o3,o4,o5,o6,o7,o8,o9,o10,o11] Q S 4 [true,true,true,true,true,true,true,false,true,false,false,false].toArray _ _
    refine Bl.take_if (i := 7) (oi := o7) (v := Rp.val q) rfl c0 c23 (by rw [hd7]; exact fun c a w => hQ c a _ _ w) (Bl.y_ext 1 (.inr rfl) hg7 ho7 (v0 := h'.val) (v1 := Rp.val q) (by simp [Act.put,hsz])) hS2 ?_
    rw [hd7]
    show wpAnyH Tryz.prog .any #[o0,o1,o2,o3,o4,o5,o6,o7,o8,o9,o10,o11] Q S 3 [true,true,true,true,true,true,true,true,true,false,false,false].toArray _ _
    have D := D.below b
    have XB := Bl.xb XB b.size
    have J := j1
    have BL := BL'
    clear BL' j1 b hS2
    refine Bl.all_if (rs := [9]) c14 (by simp) ?_
    intro i hi
    simp only [List.mem_cons,List.not_mem_nil,or_false] at hi
    rcases hi with rfl
    ·
     refine ⟨o9,rfl,fun K hK => ?_⟩
     have b : Below u19.heap.size u19 (u19.alloc (.cells #[.int .i64 0,.int .i64 0,.int .i64 0] 49)) := (Below.refl _ _).alloc (Nat.le_refl _) _
     have BL' := bchain BL b
     refine Bl.step_allocR hg9 ho9 (hK.out _ _ (hSB _ BL') fun _ => ?_)
     clear hK K
     rw [hd9]
     show wpAnyH Tryz.prog .any #[o0,o1,o2,o3,o4,o5,o6,o7,o8,o9,o10,o11] Q S 2 [true,true,true,true,true,true,true,true,true,true,false,false].toArray _ _
     have E : Rp.Bk (u19.alloc (.cells #[.int .i64 0,.int .i64 0,.int .i64 0] 49)) u19.heap.size ⟨0,0,0⟩ := heap_alloc_new u19 _
     have L9 : w.heap.size ≤ u19.heap.size := BL.size
     have N8 := D.lt
     have D := D.below b
     have XB : ∀ x ∈ (u19.heap.size :: (w.drew.heap.size :: [])),w.heap.size ≤ x ∧ x < (u19.alloc (.cells #[.int .i64 0,.int .i64 0,.int .i64 0] 49)).heap.size := Bl.xb_cons XB BL.size (by simp)
     have J : J2 (u19.heap.size :: (w.drew.heap.size :: [])) h' q (u19.alloc (.cells #[.int .i64 0,.int .i64 0,.int .i64 0] 49)) := a2 _ _ _ _ _ J
     have BL := BL'
     clear BL'
     clear b
     refine Bl.one_if (i := 10) (oi := o10) rfl c27 (fun K hK => ?_)
     refine Bl.step_put hg10 ho10 hd10 (h := h') (by simp [Act.put,hsz]) (by simp [Act.put,hsz]) D (hK.out _ _ (hSx _ _ _ L8 (hSB _ BL)) fun hS2 => ?_)
     clear hK K
     show wpAnyH Tryz.prog .any #[o0,o1,o2,o3,o4,o5,o6,o7,o8,o9,o10,o11] Q S 1 [true,true,true,true,true,true,true,true,true,true,true,false].toArray _ _
     refine Bl.one_if (i := 11) (oi := o11) rfl c28 (fun K hK => ?_)
     refine Rp.step_put hg11 ho11 hd11 (r := q) (by simp [Act.put,hsz]) (by simp [Act.put,hsz]) (E.other (by omega) _) (hK.out _ _ (hSx _ _ _ L9 hS2) fun hS3 => ?_)
     clear hK K
     show wpAnyH Tryz.prog .any #[o0,o1,o2,o3,o4,o5,o6,o7,o8,o9,o10,o11] Q S 0 [true,true,true,true,true,true,true,true,true,true,true,true].toArray _ _
     refine wpAnyH_done c29 ?_ _
     try simp only [Bl.sw10_52,Bl.sw10_54,Bl.sw10_49,Bl.sw10_55,Bl.sw10_56]
     exact k _ hm h' q _ _ _ BL J (by simp) (by simp) (by omega) L8 L9 D E
   ·
    refine ⟨o9,rfl,fun K hK => ?_⟩
    have b : Below u18.heap.size u18 (u18.alloc (.cells #[.int .i64 0,.int .i64 0,.int .i64 0] 49)) := (Below.refl _ _).alloc (Nat.le_refl _) _
    have BL' := bchain BL b
    refine Bl.step_allocR hg9 ho9 (hK.out _ _ (hSB _ BL') fun _ => ?_)
    clear hK K
    rw [hd9]
    show wpAnyH Tryz.prog .any #[o0,o1,o2,o3,o4,o5,o6,o7,o8,o9,o10,o11] Q S 6 [true,true,true,true,false,false,false,false,true,true,false,false].toArray _ _
    have E : Rp.Bk (u18.alloc (.cells #[.int .i64 0,.int .i64 0,.int .i64 0] 49)) u18.heap.size ⟨0,0,0⟩ := heap_alloc_new u18 _
    have L9 : w.heap.size ≤ u18.heap.size := BL.size
    have N8 := D.lt
    have D := D.below b
    have XB : ∀ x ∈ (u18.heap.size :: (w.drew.heap.size :: [])),w.heap.size ≤ x ∧ x < (u18.alloc (.cells #[.int .i64 0,.int .i64 0,.int .i64 0] 49)).heap.size := Bl.xb_cons XB BL.size (by simp)
    have J : J1 (u18.heap.size :: (w.drew.heap.size :: [])) hm (u18.alloc (.cells #[.int .i64 0,.int .i64 0,.int .i64 0] 49)) := a1 _ _ _ _ J
    have BL := BL'
    clear BL'
    clear b
    refine Bl.all_if (rs := [4]) c11 (by simp) ?_
    intro i hi
    simp only [List.mem_cons,List.not_mem_nil,or_false] at hi
    rcases hi with rfl
    ·
     refine ⟨o4,rfl,fun K hK => ?_⟩
     refine Bl.step_call hg4 (Bl.enters ho4 (vs := #[hm.val,v3]) (by simp [Act.eval,Act.put,hsz,Array.getD_eq_getD_getElem?]) hf2 hn2 hb2 _) ((m2 (u18.heap.size :: (w.drew.heap.size :: [])) hm _ BL XB J).mono ?_)
     rintro e u22 ⟨h',q,rfl,j1,b⟩
     have BL' := bchain BL b
     have hS2 := hSB _ BL'
     refine ⟨_,rfl,hK.out _ _ hS2 fun _ => ?_⟩
     clear hK K
     rw [hd4]
     show wpAnyH Tryz.prog .any #[o0,o1,o2,o3,o4,o5,o6,o7,o8,o9,o10,o11] Q S 5 [true,true,true,true,true,false,false,false,true,true,false,false].toArray _ _
     refine Bl.take_if (i := 5) (oi := o5) (v := .tuple #[h'.val,Rp.val q]) rfl c0 c24 (by rw [hd5]; exact fun c a w => hQ c a _ _ w) (Bl.y_move hg5 ho5 (by simp [Act.put,hsz])) hS2 ?_
     rw [hd5]
     show wpAnyH Tryz.prog .any #[o0,o1,o2,o3,o4,o5,o6,o7,o8,o9,o10,o11] Q S 4 [true,true,true,true,true,true,false,false,true,true,false,false].toArray _ _
     refine Bl.take_if (i := 6) (oi := o6) (v := h'.val) rfl c0 c25 (by rw [hd6]; exact fun c a w => hQ c a _ _ w) (Bl.y_ext 0 (.inl rfl) hg6 ho6 (v0 := h'.val) (v1 := Rp.val q) (by simp [Act.put,hsz])) hS2 ?_
     rw [hd6]
     show wpAnyH Tryz.prog .any #[o0,o1,o2,o3,o4,o5,o6,o7,o8,o9,o10,o11] Q S 3 [true,true,true,true,true,true,true,false,true,true,false,false].toArray _ _
     refine Bl.take_if (i := 7) (oi := o7) (v := Rp.val q) rfl c0 c26 (by rw [hd7]; exact fun c a w => hQ c a _ _ w) (Bl.y_ext 1 (.inr rfl) hg7 ho7 (v0 := h'.val) (v1 := Rp.val q) (by simp [Act.put,hsz])) hS2 ?_
     rw [hd7]
     show wpAnyH Tryz.prog .any #[o0,o1,o2,o3,o4,o5,o6,o7,o8,o9,o10,o11] Q S 2 [true,true,true,true,true,true,true,true,true,true,false,false].toArray _ _
     have D := D.below b
     have E := E.below b
     have XB := Bl.xb XB b.size
     have J := j1
     have BL := BL'
     clear BL' j1 b hS2
     refine Bl.one_if (i := 10) (oi := o10) rfl c27 (fun K hK => ?_)
     refine Bl.step_put hg10 ho10 hd10 (h := h') (by simp [Act.put,hsz]) (by simp [Act.put,hsz]) D (hK.out _ _ (hSx _ _ _ L8 (hSB _ BL)) fun hS2 => ?_)
     clear hK K
     show wpAnyH Tryz.prog .any #[o0,o1,o2,o3,o4,o5,o6,o7,o8,o9,o10,o11] Q S 1 [true,true,true,true,true,true,true,true,true,true,true,false].toArray _ _
     refine Bl.one_if (i := 11) (oi := o11) rfl c28 (fun K hK => ?_)
     refine Rp.step_put hg11 ho11 hd11 (r := q) (by simp [Act.put,hsz]) (by simp [Act.put,hsz]) (E.other (by omega) _) (hK.out _ _ (hSx _ _ _ L9 hS2) fun hS3 => ?_)
     clear hK K
     show wpAnyH Tryz.prog .any #[o0,o1,o2,o3,o4,o5,o6,o7,o8,o9,o10,o11] Q S 0 [true,true,true,true,true,true,true,true,true,true,true,true].toArray _ _
     refine wpAnyH_done c29 ?_ _
     try simp only [Bl.sw10_52,Bl.sw10_54,Bl.sw10_49,Bl.sw10_55,Bl.sw10_56,Bl.sw11_54,Bl.sw11_49,Bl.sw11_55,Bl.sw11_56]
     exact k _ hm h' q _ _ _ BL J (by simp) (by simp) (by omega) L8 L9 D E
  ·
   refine ⟨o9,rfl,fun K hK => ?_⟩
   have b : Below (Bl.box w.drew Bl.zsv).heap.size (Bl.box w.drew Bl.zsv) ((Bl.box w.drew Bl.zsv).alloc (.cells #[.int .i64 0,.int .i64 0,.int .i64 0] 49)) := (Below.refl _ _).alloc (Nat.le_refl _) _
   have BL' := bchain BL b
   refine Bl.step_allocR hg9 ho9 (hK.out _ _ (hSB _ BL') fun _ => ?_)
   clear hK K
   rw [hd9]
   show wpAnyH Tryz.prog .any #[o0,o1,o2,o3,o4,o5,o6,o7,o8,o9,o10,o11] Q S 7 [true,true,false,true,false,false,false,false,true,true,false,false].toArray _ _
   have E : Rp.Bk ((Bl.box w.drew Bl.zsv).alloc (.cells #[.int .i64 0,.int .i64 0,.int .i64 0] 49)) (Bl.box w.drew Bl.zsv).heap.size ⟨0,0,0⟩ := heap_alloc_new (Bl.box w.drew Bl.zsv) _
   have L9 : w.heap.size ≤ (Bl.box w.drew Bl.zsv).heap.size := BL.size
   have N8 := D.lt
   have D := D.below b
   have XB : ∀ x ∈ ((Bl.box w.drew Bl.zsv).heap.size :: (w.drew.heap.size :: [])),w.heap.size ≤ x ∧ x < ((Bl.box w.drew Bl.zsv).alloc (.cells #[.int .i64 0,.int .i64 0,.int .i64 0] 49)).heap.size := Bl.xb_cons XB BL.size (by simp)
   have J : J0 ((Bl.box w.drew Bl.zsv).heap.size :: (w.drew.heap.size :: [])) ((Bl.box w.drew Bl.zsv).alloc (.cells #[.int .i64 0,.int .i64 0,.int .i64 0] 49)) := a0 _ _ _ J
   have BL := BL'
   clear BL'
   clear b
   refine Bl.all_if (rs := [2]) c7 (by simp) ?_
   intro i hi
   simp only [List.mem_cons,List.not_mem_nil,or_false] at hi
   rcases hi with rfl
   ·
    refine ⟨o2,rfl,fun K hK => ?_⟩
    refine Bl.step_call hg2 (Bl.enters ho2 (vs := #[v0,v1]) (by simp [Act.eval,Act.put,hsz,Array.getD_eq_getD_getElem?]) hf1 hn1 hb1 _) ((m1 ((Bl.box w.drew Bl.zsv).heap.size :: (w.drew.heap.size :: [])) _ BL XB J).mono ?_)
    rintro e u24 ⟨hm,rfl,j1,b⟩
    have BL' := bchain BL b
    refine ⟨_,rfl,hK.out _ _ (hSB _ BL') fun _ => ?_⟩
    clear hK K
    rw [hd2]
    show wpAnyH Tryz.prog .any #[o0,o1,o2,o3,o4,o5,o6,o7,o8,o9,o10,o11] Q S 6 [true,true,true,true,false,false,false,false,true,true,false,false].toArray _ _
    have D := D.below b
    have E := E.below b
    have XB := Bl.xb XB b.size
    have J := j1
    have BL := BL'
    clear BL' j1 b
    refine Bl.all_if (rs := [4]) c11 (by simp) ?_
    intro i hi
    simp only [List.mem_cons,List.not_mem_nil,or_false] at hi
    rcases hi with rfl
    ·
     refine ⟨o4,rfl,fun K hK => ?_⟩
     refine Bl.step_call hg4 (Bl.enters ho4 (vs := #[hm.val,v3]) (by simp [Act.eval,Act.put,hsz,Array.getD_eq_getD_getElem?]) hf2 hn2 hb2 _) ((m2 ((Bl.box w.drew Bl.zsv).heap.size :: (w.drew.heap.size :: [])) hm _ BL XB J).mono ?_)
     rintro e u25 ⟨h',q,rfl,j1,b⟩
     have BL' := bchain BL b
     have hS2 := hSB _ BL'
     refine ⟨_,rfl,hK.out _ _ hS2 fun _ => ?_⟩
     clear hK K
     rw [hd4]
     show wpAnyH Tryz.prog .any #[o0,o1,o2,o3,o4,o5,o6,o7,o8,o9,o10,o11] Q S 5 [true,true,true,true,true,false,false,false,true,true,false,false].toArray _ _
     refine Bl.take_if (i := 5) (oi := o5) (v := .tuple #[h'.val,Rp.val q]) rfl c0 c24 (by rw [hd5]; exact fun c a w => hQ c a _ _ w) (Bl.y_move hg5 ho5 (by simp [Act.put,hsz])) hS2 ?_
     rw [hd5]
     show wpAnyH Tryz.prog .any #[o0,o1,o2,o3,o4,o5,o6,o7,o8,o9,o10,o11] Q S 4 [true,true,true,true,true,true,false,false,true,true,false,false].toArray _ _
     refine Bl.take_if (i := 6) (oi := o6) (v := h'.val) rfl c0 c25 (by rw [hd6]; exact fun c a w => hQ c a _ _ w) (Bl.y_ext 0 (.inl rfl) hg6 ho6 (v0 := h'.val) (v1 := Rp.val q) (by simp [Act.put,hsz])) hS2 ?_
     rw [hd6]
     show wpAnyH Tryz.prog .any #[o0,o1,o2,o3,o4,o5,o6,o7,o8,o9,o10,o11] Q S 3 [true,true,true,true,true,true,true,false,true,true,false,false].toArray _ _
     refine Bl.take_if (i := 7) (oi := o7) (v := Rp.val q) rfl c0 c26 (by rw [hd7]; exact fun c a w => hQ c a _ _ w) (Bl.y_ext 1 (.inr rfl) hg7 ho7 (v0 := h'.val) (v1 := Rp.val q) (by simp [Act.put,hsz])) hS2 ?_
     rw [hd7]
     show wpAnyH Tryz.prog .any #[o0,o1,o2,o3,o4,o5,o6,o7,o8,o9,o10,o11] Q S 2 [true,true,true,true,true,true,true,true,true,true,false,false].toArray _ _
     have D := D.below b
     have E := E.below b
     have XB := Bl.xb XB b.size
     have J := j1
     have BL := BL'
     clear BL' j1 b hS2
     refine Bl.one_if (i := 10) (oi := o10) rfl c27 (fun K hK => ?_)
     refine Bl.step_put hg10 ho10 hd10 (h := h') (by simp [Act.put,hsz]) (by simp [Act.put,hsz]) D (hK.out _ _ (hSx _ _ _ L8 (hSB _ BL)) fun hS2 => ?_)
     clear hK K
     show wpAnyH Tryz.prog .any #[o0,o1,o2,o3,o4,o5,o6,o7,o8,o9,o10,o11] Q S 1 [true,true,true,true,true,true,true,true,true,true,true,false].toArray _ _
     refine Bl.one_if (i := 11) (oi := o11) rfl c28 (fun K hK => ?_)
     refine Rp.step_put hg11 ho11 hd11 (r := q) (by simp [Act.put,hsz]) (by simp [Act.put,hsz]) (E.other (by omega) _) (hK.out _ _ (hSx _ _ _ L9 hS2) fun hS3 => ?_)
     clear hK K
     show wpAnyH Tryz.prog .any #[o0,o1,o2,o3,o4,o5,o6,o7,o8,o9,o10,o11] Q S 0 [true,true,true,true,true,true,true,true,true,true,true,true].toArray _ _
     refine wpAnyH_done c29 ?_ _
     try simp only [Bl.sw10_52,Bl.sw10_54,Bl.sw10_49,Bl.sw10_55,Bl.sw10_56,Bl.sw11_52,Bl.sw11_54,Bl.sw11_49,Bl.sw11_55,Bl.sw11_56]
     exact k _ hm h' q _ _ _ BL J (by simp) (by simp) (by omega) L8 L9 D E
 ·
  refine ⟨o9,rfl,fun K hK => ?_⟩
  have b : Below w.drew.heap.size w.drew (w.drew.alloc (.cells #[.int .i64 0,.int .i64 0,.int .i64 0] 49)) := (Below.refl _ _).alloc (Nat.le_refl _) _
  have BL' := bchain BL b
  refine Bl.step_allocR hg9 ho9 (hK.out _ _ (hSB _ BL') fun _ => ?_)
  clear hK K
  rw [hd9]
  show wpAnyH Tryz.prog .any #[o0,o1,o2,o3,o4,o5,o6,o7,o8,o9,o10,o11] Q S 8 [true,true,false,true,false,false,false,false,false,true,false,false].toArray _ _
  have E : Rp.Bk (w.drew.alloc (.cells #[.int .i64 0,.int .i64 0,.int .i64 0] 49)) w.drew.heap.size ⟨0,0,0⟩ := heap_alloc_new w.drew _
  have L9 : w.heap.size ≤ w.drew.heap.size := BL.size
  have XB : ∀ x ∈ (w.drew.heap.size :: []),w.heap.size ≤ x ∧ x < (w.drew.alloc (.cells #[.int .i64 0,.int .i64 0,.int .i64 0] 49)).heap.size := Bl.xb_cons XB BL.size (by simp)
  have J : J0 (w.drew.heap.size :: []) (w.drew.alloc (.cells #[.int .i64 0,.int .i64 0,.int .i64 0] 49)) := a0 _ _ _ J
  have BL := BL'
  clear BL'
  clear b
  refine Bl.all_if (rs := [2,8]) c5 (by simp) ?_
  intro i hi
  simp only [List.mem_cons,List.not_mem_nil,or_false] at hi
  rcases hi with rfl | rfl
  ·
   refine ⟨o2,rfl,fun K hK => ?_⟩
   refine Bl.step_call hg2 (Bl.enters ho2 (vs := #[v0,v1]) (by simp [Act.eval,Act.put,hsz,Array.getD_eq_getD_getElem?]) hf1 hn1 hb1 _) ((m1 (w.drew.heap.size :: []) _ BL XB J).mono ?_)
   rintro e u27 ⟨hm,rfl,j1,b⟩
   have BL' := bchain BL b
   refine ⟨_,rfl,hK.out _ _ (hSB _ BL') fun _ => ?_⟩
   clear hK K
   rw [hd2]
   show wpAnyH Tryz.prog .any #[o0,o1,o2,o3,o4,o5,o6,o7,o8,o9,o10,o11] Q S 7 [true,true,true,true,false,false,false,false,false,true,false,false].toArray _ _
   have E := E.below b
   have XB := Bl.xb XB b.size
   have J := j1
   have BL := BL'
   clear BL' j1 b
   refine Bl.all_if (rs := [4,8]) c9 (by simp) ?_
   intro i hi
   simp only [List.mem_cons,List.not_mem_nil,or_false] at hi
   rcases hi with rfl | rfl
   ·
    refine ⟨o4,rfl,fun K hK => ?_⟩
    refine Bl.step_call hg4 (Bl.enters ho4 (vs := #[hm.val,v3]) (by simp [Act.eval,Act.put,hsz,Array.getD_eq_getD_getElem?]) hf2 hn2 hb2 _) ((m2 (w.drew.heap.size :: []) hm _ BL XB J).mono ?_)
    rintro e u28 ⟨h',q,rfl,j1,b⟩
    have BL' := bchain BL b
    have hS2 := hSB _ BL'
    refine ⟨_,rfl,hK.out _ _ hS2 fun _ => ?_⟩
    clear hK K
    rw [hd4]
    show wpAnyH Tryz.prog .any #[o0,o1,o2,o3,o4,o5,o6,o7,o8,o9,o10,o11] Q S 6 [true,true,true,true,true,false,false,false,false,true,false,false].toArray _ _
    refine Bl.take_if (i := 5) (oi := o5) (v := .tuple #[h'.val,Rp.val q]) rfl c0 c18 (by rw [hd5]; exact fun c a w => hQ c a _ _ w) (Bl.y_move hg5 ho5 (by simp [Act.put,hsz])) hS2 ?_
    rw [hd5]
    show wpAnyH Tryz.prog .any #[o0,o1,o2,o3,o4,o5,o6,o7,o8,o9,o10,o11] Q S 5 [true,true,true,true,true,true,false,false,false,true,false,false].toArray _ _
    refine Bl.take_if (i := 6) (oi := o6) (v := h'.val) rfl c0 c19 (by rw [hd6]; exact fun c a w => hQ c a _ _ w) (Bl.y_ext 0 (.inl rfl) hg6 ho6 (v0 := h'.val) (v1 := Rp.val q) (by simp [Act.put,hsz])) hS2 ?_
    rw [hd6]
    show wpAnyH Tryz.prog .any #[o0,o1,o2,o3,o4,o5,o6,o7,o8,o9,o10,o11] Q S 4 [true,true,true,true,true,true,true,false,false,true,false,false].toArray _ _
    refine Bl.take_if (i := 7) (oi := o7) (v := Rp.val q) rfl c0 c20 (by rw [hd7]; exact fun c a w => hQ c a _ _ w) (Bl.y_ext 1 (.inr rfl) hg7 ho7 (v0 := h'.val) (v1 := Rp.val q) (by simp [Act.put,hsz])) hS2 ?_
    rw [hd7]
    show wpAnyH Tryz.prog .any #[o0,o1,o2,o3,o4,o5,o6,o7,o8,o9,o10,o11] Q S 3 [true,true,true,true,true,true,true,true,false,true,false,false].toArray _ _
    have E := E.below b
    have XB := Bl.xb XB b.size
    have J := j1
    have BL := BL'
    clear BL' j1 b hS2
    refine Bl.all_if (rs := [8]) c13 (by simp) ?_
    intro i hi
    simp only [List.mem_cons,List.not_mem_nil,or_false] at hi
    rcases hi with rfl
    ·
     refine ⟨o8,rfl,fun K hK => ?_⟩
     have b : Below u28.heap.size u28 (Bl.box u28 Bl.zsv) := (Below.refl _ _).alloc (Nat.le_refl _) _
     have BL' := bchain BL b
     refine Bl.step_allocS hg8 ho8 (hK.out _ _ (hSB _ BL') fun _ => ?_)
     clear hK K
     rw [hd8]
     show wpAnyH Tryz.prog .any #[o0,o1,o2,o3,o4,o5,o6,o7,o8,o9,o10,o11] Q S 2 [true,true,true,true,true,true,true,true,true,true,false,false].toArray _ _
     have D : Bl.At (Bl.box u28 Bl.zsv) u28.heap.size Bl.zsv := Bl.at_box u28 Bl.zsv
     have L8 : w.heap.size ≤ u28.heap.size := BL.size
     have N9 := E.lt
     have E := E.below b
     have XB : ∀ x ∈ (u28.heap.size :: (w.drew.heap.size :: [])),w.heap.size ≤ x ∧ x < (Bl.box u28 Bl.zsv).heap.size := Bl.xb_cons XB BL.size (by simp [Bl.box])
     have J : J2 (u28.heap.size :: (w.drew.heap.size :: [])) h' q (Bl.box u28 Bl.zsv) := a2 _ _ _ _ _ J
     have BL := BL'
     clear BL'
     clear b
     refine Bl.one_if (i := 10) (oi := o10) rfl c27 (fun K hK => ?_)
     refine Bl.step_put hg10 ho10 hd10 (h := h') (by simp [Act.put,hsz]) (by simp [Act.put,hsz]) D (hK.out _ _ (hSx _ _ _ L8 (hSB _ BL)) fun hS2 => ?_)
     clear hK K
     show wpAnyH Tryz.prog .any #[o0,o1,o2,o3,o4,o5,o6,o7,o8,o9,o10,o11] Q S 1 [true,true,true,true,true,true,true,true,true,true,true,false].toArray _ _
     refine Bl.one_if (i := 11) (oi := o11) rfl c28 (fun K hK => ?_)
     refine Rp.step_put hg11 ho11 hd11 (r := q) (by simp [Act.put,hsz]) (by simp [Act.put,hsz]) (E.other (by omega) _) (hK.out _ _ (hSx _ _ _ L9 hS2) fun hS3 => ?_)
     clear hK K
     show wpAnyH Tryz.prog .any #[o0,o1,o2,o3,o4,o5,o6,o7,o8,o9,o10,o11] Q S 0 [true,true,true,true,true,true,true,true,true,true,true,true].toArray _ _
     refine wpAnyH_done c29 ?_ _
     try simp only [Bl.sw11_52,Bl.sw11_54,Bl.sw11_49,Bl.sw11_55,Bl.sw11_56,Bl.sw11_10]
     exact k _ hm h' q _ _ _ BL J (by simp) (by simp) (by omega) L8 L9 D E
   ·
    refine ⟨o8,rfl,fun K hK => ?_⟩
    have b : Below u27.heap.size u27 (Bl.box u27 Bl.zsv) := (Below.refl _ _).alloc (Nat.le_refl _) _
    have BL' := bchain BL b
    refine Bl.step_allocS hg8 ho8 (hK.out _ _ (hSB _ BL') fun _ => ?_)
    clear hK K
    rw [hd8]
    show wpAnyH Tryz.prog .any #[o0,o1,o2,o3,o4,o5,o6,o7,o8,o9,o10,o11] Q S 6 [true,true,true,true,false,false,false,false,true,true,false,false].toArray _ _
    have D : Bl.At (Bl.box u27 Bl.zsv) u27.heap.size Bl.zsv := Bl.at_box u27 Bl.zsv
    have L8 : w.heap.size ≤ u27.heap.size := BL.size
    have N9 := E.lt
    have E := E.below b
    have XB : ∀ x ∈ (u27.heap.size :: (w.drew.heap.size :: [])),w.heap.size ≤ x ∧ x < (Bl.box u27 Bl.zsv).heap.size := Bl.xb_cons XB BL.size (by simp [Bl.box])
    have J : J1 (u27.heap.size :: (w.drew.heap.size :: [])) hm (Bl.box u27 Bl.zsv) := a1 _ _ _ _ J
    have BL := BL'
    clear BL'
    clear b
    refine Bl.all_if (rs := [4]) c11 (by simp) ?_
    intro i hi
    simp only [List.mem_cons,List.not_mem_nil,or_false] at hi
    rcases hi with rfl
    ·
     refine ⟨o4,rfl,fun K hK => ?_⟩
     refine Bl.step_call hg4 (Bl.enters ho4 (vs := #[hm.val,v3]) (by simp [Act.eval,Act.put,hsz,Array.getD_eq_getD_getElem?]) hf2 hn2 hb2 _) ((m2 (u27.heap.size :: (w.drew.heap.size :: [])) hm _ BL XB J).mono ?_)
     rintro e u31 ⟨h',q,rfl,j1,b⟩
     have BL' := bchain BL b
     have hS2 := hSB _ BL'
     refine ⟨_,rfl,hK.out _ _ hS2 fun _ => ?_⟩
     clear hK K
     rw [hd4]
     show wpAnyH Tryz.prog .any #[o0,o1,o2,o3,o4,o5,o6,o7,o8,o9,o10,o11] Q S 5 [true,true,true,true,true,false,false,false,true,true,false,false].toArray _ _
     refine Bl.take_if (i := 5) (oi := o5) (v := .tuple #[h'.val,Rp.val q]) rfl c0 c24 (by rw [hd5]; exact fun c a w => hQ c a _ _ w) (Bl.y_move hg5 ho5 (by simp [Act.put,hsz])) hS2 ?_
     rw [hd5]
     show wpAnyH Tryz.prog .any #[o0,o1,o2,o3,o4,o5,o6,o7,o8,o9,o10,o11] Q S 4 [true,true,true,true,true,true,false,false,true,true,false,false].toArray _ _
     refine Bl.take_if (i := 6) (oi := o6) (v := h'.val) rfl c0 c25 (by rw [hd6]; exact fun c a w => hQ c a _ _ w) (Bl.y_ext 0 (.inl rfl) hg6 ho6 (v0 := h'.val) (v1 := Rp.val q) (by simp [Act.put,hsz])) hS2 ?_
     rw [hd6]
     show wpAnyH Tryz.prog .any #[o0,o1,o2,o3,o4,o5,o6,o7,o8,o9,o10,o11] Q S 3 [true,true,true,true,true,true,true,false,true,true,false,false].toArray _ _
     refine Bl.take_if (i := 7) (oi := o7) (v := Rp.val q) rfl c0 c26 (by rw [hd7]; exact fun c a w => hQ c a _ _ w) (Bl.y_ext 1 (.inr rfl) hg7 ho7 (v0 := h'.val) (v1 := Rp.val q) (by simp [Act.put,hsz])) hS2 ?_
     rw [hd7]
     show wpAnyH Tryz.prog .any #[o0,o1,o2,o3,o4,o5,o6,o7,o8,o9,o10,o11] Q S 2 [true,true,true,true,true,true,true,true,true,true,false,false].toArray _ _
     have D := D.below b
     have E := E.below b
     have XB := Bl.xb XB b.size
     have J := j1
     have BL := BL'
     clear BL' j1 b hS2
     refine Bl.one_if (i := 10) (oi := o10) rfl c27 (fun K hK => ?_)
     refine Bl.step_put hg10 ho10 hd10 (h := h') (by simp [Act.put,hsz]) (by simp [Act.put,hsz]) D (hK.out _ _ (hSx _ _ _ L8 (hSB _ BL)) fun hS2 => ?_)
     clear hK K
     show wpAnyH Tryz.prog .any #[o0,o1,o2,o3,o4,o5,o6,o7,o8,o9,o10,o11] Q S 1 [true,true,true,true,true,true,true,true,true,true,true,false].toArray _ _
     refine Bl.one_if (i := 11) (oi := o11) rfl c28 (fun K hK => ?_)
     refine Rp.step_put hg11 ho11 hd11 (r := q) (by simp [Act.put,hsz]) (by simp [Act.put,hsz]) (E.other (by omega) _) (hK.out _ _ (hSx _ _ _ L9 hS2) fun hS3 => ?_)
     clear hK K
     show wpAnyH Tryz.prog .any #[o0,o1,o2,o3,o4,o5,o6,o7,o8,o9,o10,o11] Q S 0 [true,true,true,true,true,true,true,true,true,true,true,true].toArray _ _
     refine wpAnyH_done c29 ?_ _
     try simp only [Bl.sw10_54,Bl.sw10_49,Bl.sw10_55,Bl.sw10_56,Bl.sw11_52,Bl.sw11_54,Bl.sw11_49,Bl.sw11_55,Bl.sw11_56,Bl.sw11_10]
     exact k _ hm h' q _ _ _ BL J (by simp) (by simp) (by omega) L8 L9 D E
  ·
   refine ⟨o8,rfl,fun K hK => ?_⟩
   have b : Below (w.drew.alloc (.cells #[.int .i64 0,.int .i64 0,.int .i64 0] 49)).heap.size (w.drew.alloc (.cells #[.int .i64 0,.int .i64 0,.int .i64 0] 49)) (Bl.box (w.drew.alloc (.cells #[.int .i64 0,.int .i64 0,.int .i64 0] 49)) Bl.zsv) := (Below.refl _ _).alloc (Nat.le_refl _) _
   have BL' := bchain BL b
   refine Bl.step_allocS hg8 ho8 (hK.out _ _ (hSB _ BL') fun _ => ?_)
   clear hK K
   rw [hd8]
   show wpAnyH Tryz.prog .any #[o0,o1,o2,o3,o4,o5,o6,o7,o8,o9,o10,o11] Q S 7 [true,true,false,true,false,false,false,false,true,true,false,false].toArray _ _
   have D : Bl.At (Bl.box (w.drew.alloc (.cells #[.int .i64 0,.int .i64 0,.int .i64 0] 49)) Bl.zsv) (w.drew.alloc (.cells #[.int .i64 0,.int .i64 0,.int .i64 0] 49)).heap.size Bl.zsv := Bl.at_box (w.drew.alloc (.cells #[.int .i64 0,.int .i64 0,.int .i64 0] 49)) Bl.zsv
   have L8 : w.heap.size ≤ (w.drew.alloc (.cells #[.int .i64 0,.int .i64 0,.int .i64 0] 49)).heap.size := BL.size
   have N9 := E.lt
   have E := E.below b
   have XB : ∀ x ∈ ((w.drew.alloc (.cells #[.int .i64 0,.int .i64 0,.int .i64 0] 49)).heap.size :: (w.drew.heap.size :: [])),w.heap.size ≤ x ∧ x < (Bl.box (w.drew.alloc (.cells #[.int .i64 0,.int .i64 0,.int .i64 0] 49)) Bl.zsv).heap.size := Bl.xb_cons XB BL.size (by simp [Bl.box])
   have J : J0 ((w.drew.alloc (.cells #[.int .i64 0,.int .i64 0,.int .i64 0] 49)).heap.size :: (w.drew.heap.size :: [])) (Bl.box (w.drew.alloc (.cells #[.int .i64 0,.int .i64 0,.int .i64 0] 49)) Bl.zsv) := a0 _ _ _ J
   have BL := BL'
   clear BL'
   clear b
   refine Bl.all_if (rs := [2]) c7 (by simp) ?_
   intro i hi
   simp only [List.mem_cons,List.not_mem_nil,or_false] at hi
   rcases hi with rfl
   ·
    refine ⟨o2,rfl,fun K hK => ?_⟩
    refine Bl.step_call hg2 (Bl.enters ho2 (vs := #[v0,v1]) (by simp [Act.eval,Act.put,hsz,Array.getD_eq_getD_getElem?]) hf1 hn1 hb1 _) ((m1 ((w.drew.alloc (.cells #[.int .i64 0,.int .i64 0,.int .i64 0] 49)).heap.size :: (w.drew.heap.size :: [])) _ BL XB J).mono ?_)
    rintro e u33 ⟨hm,rfl,j1,b⟩
    have BL' := bchain BL b
    refine ⟨_,rfl,hK.out _ _ (hSB _ BL') fun _ => ?_⟩
    clear hK K
    rw [hd2]
    show wpAnyH Tryz.prog .any #[o0,o1,o2,o3,o4,o5,o6,o7,o8,o9,o10,o11] Q S 6 [true,true,true,true,false,false,false,false,true,true,false,false].toArray _ _
    have D := D.below b
    have E := E.below b
    have XB := Bl.xb XB b.size
    have J := j1
    have BL := BL'
    clear BL' j1 b
    refine Bl.all_if (rs := [4]) c11 (by simp) ?_
    intro i hi
    simp only [List.mem_cons,List.not_mem_nil,or_false] at hi
    rcases hi with rfl
    ·
     refine ⟨o4,rfl,fun K hK => ?_⟩
     refine Bl.step_call hg4 (Bl.enters ho4 (vs := #[hm.val,v3]) (by simp [Act.eval,Act.put,hsz,Array.getD_eq_getD_getElem?]) hf2 hn2 hb2 _) ((m2 ((w.drew.alloc (.cells #[.int .i64 0,.int .i64 0,.int .i64 0] 49)).heap.size :: (w.drew.heap.size :: [])) hm _ BL XB J).mono ?_)
     rintro e u34 ⟨h',q,rfl,j1,b⟩
     have BL' := bchain BL b
     have hS2 := hSB _ BL'
     refine ⟨_,rfl,hK.out _ _ hS2 fun _ => ?_⟩
     clear hK K
     rw [hd4]
     show wpAnyH Tryz.prog .any #[o0,o1,o2,o3,o4,o5,o6,o7,o8,o9,o10,o11] Q S 5 [true,true,true,true,true,false,false,false,true,true,false,false].toArray _ _
     refine Bl.take_if (i := 5) (oi := o5) (v := .tuple #[h'.val,Rp.val q]) rfl c0 c24 (by rw [hd5]; exact fun c a w => hQ c a _ _ w) (Bl.y_move hg5 ho5 (by simp [Act.put,hsz])) hS2 ?_
     rw [hd5]
     show wpAnyH Tryz.prog .any #[o0,o1,o2,o3,o4,o5,o6,o7,o8,o9,o10,o11] Q S 4 [true,true,true,true,true,true,false,false,true,true,false,false].toArray _ _
     refine Bl.take_if (i := 6) (oi := o6) (v := h'.val) rfl c0 c25 (by rw [hd6]; exact fun c a w => hQ c a _ _ w) (Bl.y_ext 0 (.inl rfl) hg6 ho6 (v0 := h'.val) (v1 := Rp.val q) (by simp [Act.put,hsz])) hS2 ?_
     rw [hd6]
     show wpAnyH Tryz.prog .any #[o0,o1,o2,o3,o4,o5,o6,o7,o8,o9,o10,o11] Q S 3 [true,true,true,true,true,true,true,false,true,true,false,false].toArray _ _
     refine Bl.take_if (i := 7) (oi := o7) (v := Rp.val q) rfl c0 c26 (by rw [hd7]; exact fun c a w => hQ c a _ _ w) (Bl.y_ext 1 (.inr rfl) hg7 ho7 (v0 := h'.val) (v1 := Rp.val q) (by simp [Act.put,hsz])) hS2 ?_
     rw [hd7]
     show wpAnyH Tryz.prog .any #[o0,o1,o2,o3,o4,o5,o6,o7,o8,o9,o10,o11] Q S 2 [true,true,true,true,true,true,true,true,true,true,false,false].toArray _ _
     have D := D.below b
     have E := E.below b
     have XB := Bl.xb XB b.size
     have J := j1
     have BL := BL'
     clear BL' j1 b hS2
     refine Bl.one_if (i := 10) (oi := o10) rfl c27 (fun K hK => ?_)
     refine Bl.step_put hg10 ho10 hd10 (h := h') (by simp [Act.put,hsz]) (by simp [Act.put,hsz]) D (hK.out _ _ (hSx _ _ _ L8 (hSB _ BL)) fun hS2 => ?_)
     clear hK K
     show wpAnyH Tryz.prog .any #[o0,o1,o2,o3,o4,o5,o6,o7,o8,o9,o10,o11] Q S 1 [true,true,true,true,true,true,true,true,true,true,true,false].toArray _ _
     refine Bl.one_if (i := 11) (oi := o11) rfl c28 (fun K hK => ?_)
     refine Rp.step_put hg11 ho11 hd11 (r := q) (by simp [Act.put,hsz]) (by simp [Act.put,hsz]) (E.other (by omega) _) (hK.out _ _ (hSx _ _ _ L9 hS2) fun hS3 => ?_)
     clear hK K
     show wpAnyH Tryz.prog .any #[o0,o1,o2,o3,o4,o5,o6,o7,o8,o9,o10,o11] Q S 0 [true,true,true,true,true,true,true,true,true,true,true,true].toArray _ _
     refine wpAnyH_done c29 ?_ _
     try simp only [Bl.sw10_52,Bl.sw10_54,Bl.sw10_49,Bl.sw10_55,Bl.sw10_56,Bl.sw11_52,Bl.sw11_54,Bl.sw11_49,Bl.sw11_55,Bl.sw11_56,Bl.sw11_10]
     exact k _ hm h' q _ _ _ BL J (by simp) (by simp) (by omega) L8 L9 D E
end Go.Proofs.YtjpfpojbalepeaaGreat
namespace Go.Proofs.YtjpfpojbalepeaaGreat
open Go.RowKit
open Mem
open Go.Sort (grow)
def Tt.lay (w : World) (g : Nat) (N X G : Int) (v : Value) : World := w.setRow g #[.int .i64 N,.int .i64 X,.int .i64 G,v]
theorem Tt.At.lay {w : World} {g : Nat} {N0 X0 G0 : Int} {v0 : Value} (h : Tt.At w g N0 X0 G0 v0) (N X G : Int) (v : Value) : Tt.At (Tt.lay w g N X G v) g N X G v := setRow_heap w g _ _ 64 _ h
theorem Tt.step_put {ops : Array Oper} {o : Oper} {a : Act} {w : World} {K : Act → World → Prop} {Q : Exit → Act → World → Prop} {E : Prop} {x y : Tmp} {g : Nat} {N0 X0 G0 N X G : Int} {v0 : Value} {sl : Sl} (hgd : o.guard = none) (ho : o.op = .store 64 (.tmp x) (.tmp y)) (hd : o.dst = none) (hx : a.tmps.toList[x]? = some (.pointer (some ⟨g,0,none⟩))) (hy : a.tmps.toList[y]? = some (Tt.val N X G (.slice sl.ao sl.n sl.cap))) (hA : Tt.At w g N0 X0 G0 v0)
  (k : K a (Tt.lay w g N X G (.slice sl.ao sl.n sl.cap))) : if Region.wanted o (yielded ops a.tmps) = true then Oper.wp Tryz.prog o a w K Q else E := by
 have hw : Region.wanted o (yielded ops a.tmps) = true := by simp [Region.wanted,hgd]
 rw [if_pos hw]
 refine wp_store_row 64 (.tmp x) (.tmp y) ho g #[.int .i64 N,.int .i64 X,.int .i64 G,.slice sl.ao sl.n sl.cap] (Ca.evT hx) (Ca.evT hy) 64 #[.int .i64 N0,.int .i64 X0,.int .i64 G0,v0] hA (by rw [Tt.infoT]; rfl) rfl (by simp [Value.oneCell']) ?_
 rw [hd]
 exact k
theorem Bl.step_allocT {ops : Array Oper} {o : Oper} {a : Act} {w : World} {K : Act → World → Prop} {Q : Exit → Act → World → Prop} {E : Prop} (hgd : o.guard = none) (ho : o.op = .alloc 64) (k : K (a.put o.dst (.pointer (some ⟨w.heap.size,0,none⟩))) (Tt.box w 0 0 0 (.slice none 0 0))) :
  if Region.wanted o (yielded ops a.tmps) = true then Oper.wp Tryz.prog o a w K Q else E := by
 have hw : Region.wanted o (yielded ops a.tmps) = true := by simp [Region.wanted,hgd]
 rw [if_pos hw]
 unfold Oper.wp
 simp only [execOp,ho]
 simp [go_sem]
 exact k
theorem Bl.y_asg {ops : Array Oper} {o : Oper} {a : Act} {S : World → Prop} {t : Tmp} {v : Value} (hgd : o.guard = none) (ho : o.op = .assign (.tmp t)) (hp : a.tmps.toList[t]? = some v) : YieldsIf Tryz.prog ops S o v a := by
 refine .inl ⟨by simp [Region.wanted,hgd],fun u _ => ?_⟩
 simp only [execOp,ho,Ca.evT hp]
 simp [go_sem]
def Bl.chk14 (ops : Array Oper) : Bool := Region.noSelect ops && Bl.tk ops [false,false,false,false,false,false,false,false,false,false,false,false,false,false] 0 && Bl.tk ops [true,false,false,false,false,false,false,false,false,false,false,false,false,false] 1 && Bl.tk ops [true,true,false,false,false,false,false,false,false,false,false,false,false,false] 2 && Bl.tk ops [true,true,true,false,false,false,false,false,false,false,false,false,false,false] 3 && Bl.tk ops [true,true,true,true,false,false,false,false,false,false,false,false,false,false] 4 && Bl.tk ops [true,true,true,true,true,false,false,false,false,false,false,false,false,false] 5 && Bl.tk ops [true,true,true,true,true,true,false,false,false,false,false,false,false,false] 6 && (Region.ready .any ops [true,true,true,true,true,true,true,false,false,false,false,false,false,false].toArray == [7,11]) && (Region.ready .any ops [true,true,true,true,true,true,true,false,false,false,false,true,false,false].toArray == [7]) && Bl.tk ops [true,true,true,true,true,true,true,true,false,false,false,false,false,false] 8 && Bl.tk ops [true,true,true,true,true,true,true,true,true,false,false,false,false,false] 9 && Bl.tk ops [true,true,true,true,true,true,true,true,true,true,false,false,false,false] 10 && Bl.tk ops [true,true,true,true,true,true,true,true,false,false,false,true,false,false] 8 && Bl.tk ops [true,true,true,true,true,true,true,true,true,false,false,true,false,false] 9 && Bl.tk ops [true,true,true,true,true,true,true,true,true,true,false,true,false,false] 10 && (Region.ready .any ops [true,true,true,true,true,true,true,true,true,true,true,false,false,false].toArray == [11]) && (Region.ready .any ops [true,true,true,true,true,true,true,true,true,true,true,true,false,false].toArray == [12]) && Bl.tk ops [true,true,true,true,true,true,true,true,true,true,true,true,true,false] 13 && (Region.ready .any ops [true,true,true,true,true,true,true,true,true,true,true,true,true,true].toArray == [])
theorem Bl.sx7_32 (X : Act) (p v : Value) : (X.put (some 7) p).put (some 32) v = (X.put (some 32) v).put (some 7) p := congrArg (fun t => (⟨t,X.defers⟩ : Act)) (Array.setIfInBounds_comm _ _ (by decide))
theorem Bl.sx7_24 (X : Act) (p v : Value) : (X.put (some 7) p).put (some 24) v = (X.put (some 24) v).put (some 7) p := congrArg (fun t => (⟨t,X.defers⟩ : Act)) (Array.setIfInBounds_comm _ _ (by decide))
theorem Bl.sx7_33 (X : Act) (p v : Value) : (X.put (some 7) p).put (some 33) v = (X.put (some 33) v).put (some 7) p := congrArg (fun t => (⟨t,X.defers⟩ : Act)) (Array.setIfInBounds_comm _ _ (by decide))
theorem Bl.sx7_34 (X : Act) (p v : Value) : (X.put (some 7) p).put (some 34) v = (X.put (some 34) v).put (some 7) p := congrArg (fun t => (⟨t,X.defers⟩ : Act)) (Array.setIfInBounds_comm _ _ (by decide))
set_option maxHeartbeats 4000000 in
theorem Bl.wp_undo {id : Nat} {o0 o1 o2 o3 o4 o5 o6 o7 o8 o9 o10 o11 o12 o13 : Oper} {a : Act} {w : World} {Q : Exit → Act → World → Prop} {S : World → Prop} {J : List Nat → Int → Int → Int → Sl → Int → World → Prop} (v0 v1 v2 v3 v4 v5 v6 : Value) {f1 : FuncId} {fn1 : Func} {c1 : Code} {ty1 : Array TypeId}
  (hsz : a.tmps.size = 64) (hSB : ∀ u,Below w.heap.size w u → S u) (hSx : ∀ u b vs,w.heap.size ≤ b → S u → S (World.setRow u b vs)) (hc : Bl.chk14 #[o0,o1,o2,o3,o4,o5,o6,o7,o8,o9,o10,o11,o12,o13] = true)
  (hd0 : o0.dst = some 25) (hd1 : o1.dst = some 26) (hd2 : o2.dst = some 27) (hd3 : o3.dst = some 28) (hd4 : o4.dst = some 29) (hd5 : o5.dst = some 30) (hd6 : o6.dst = some 31) (hd7 : o7.dst = some 32) (hd8 : o8.dst = some 24) (hd9 : o9.dst = some 33) (hd10 : o10.dst = some 34) (hd11 : o11.dst = some 7) (hd13 : o13.dst = some 8) (hg7 : o7.guard = none) (hg8 : o8.guard = none) (hg9 : o9.guard = none) (hg10 : o10.guard = none) (hg11 : o11.guard = none) (hg12 : o12.guard = none) (hg13 : o13.guard = none)
  (y0 : YieldsIf Tryz.prog #[o0,o1,o2,o3,o4,o5,o6,o7,o8,o9,o10,o11,o12,o13] S o0 v0 a) (y1 : YieldsIf Tryz.prog #[o0,o1,o2,o3,o4,o5,o6,o7,o8,o9,o10,o11,o12,o13] S o1 v1 (a.put (some 25) v0)) (y2 : YieldsIf Tryz.prog #[o0,o1,o2,o3,o4,o5,o6,o7,o8,o9,o10,o11,o12,o13] S o2 v2 ((a.put (some 25) v0).put (some 26) v1)) (y3 : YieldsIf Tryz.prog #[o0,o1,o2,o3,o4,o5,o6,o7,o8,o9,o10,o11,o12,o13] S o3 v3 (((a.put (some 25) v0).put (some 26) v1).put (some 27) v2)) (y4 : YieldsIf Tryz.prog #[o0,o1,o2,o3,o4,o5,o6,o7,o8,o9,o10,o11,o12,o13] S o4 v4 ((((a.put (some 25) v0).put (some 26) v1).put (some 27) v2).put (some 28) v3)) (y5 : YieldsIf Tryz.prog #[o0,o1,o2,o3,o4,o5,o6,o7,o8,o9,o10,o11,o12,o13] S o5 v5 (((((a.put (some 25) v0).put (some 26) v1).put (some 27) v2).put (some 28) v3).put (some 29) v4)) (y6 : YieldsIf Tryz.prog #[o0,o1,o2,o3,o4,o5,o6,o7,o8,o9,o10,o11,o12,o13] S o6 v6 ((((((a.put (some 25) v0).put (some 26) v1).put (some 27) v2).put (some 28) v3).put (some 29) v4).put (some 30) v5))
  (hQ : ∀ c a d v w,Q (.panic c) (Act.put a (some d) v) w → Q (.panic c) a w)
  (ho7 : o7.op = .call { callee := .value (.func f1), args := #[.tmp 29, .tmp 31], argTypes := ty1 }) (hf1 : Tryz.prog.funcs[f1]? = some fn1) (hn1 : (fn1.name == "runtime.NumGoroutine") = false) (hb1 : fn1.body = some c1)
  (ho8 : o8.op = .move (.tmp 32)) (ho9 : o9.op = .extract (.tmp 24) 0) (ho10 : o10.op = .extract (.tmp 24) 1) (ho11 : o11.op = .alloc 64) (ho12 : o12.op = .store 64 (.tmp 7) (.tmp 33)) (hd12 : o12.dst = none) (ho13 : o13.op = .assign (.tmp 34))
  (m1 : ∀ X u,Below w.heap.size w u → (∀ x ∈ X,w.heap.size ≤ x ∧ x < u.heap.size) → Calls Tryz.prog f1 #[v4,v6] u fun e u' => ∃ (N T G : Int) (sl : Sl) (E : Int),e = .returned (.tuple #[Tt.val N T G (.slice sl.ao sl.n sl.cap),.int .i64 E]) ∧ J X N T G sl E u' ∧ Below u.heap.size u u')
  (a1 : ∀ X N T G sl E u o,J X N T G sl E u → J (u.heap.size :: X) N T G sl E (World.alloc u o))
  (k : ∀ X N T G sl E u gt,Below w.heap.size w u → J X N T G sl E u → gt ∈ X → w.heap.size ≤ gt → Tt.At u gt 0 0 0 (.slice none 0 0) → Q .normal ((((((((((((((a.put (some 25) v0).put (some 26) v1).put (some 27) v2).put (some 28) v3).put (some 29) v4).put (some 30) v5).put (some 31) v6).put (some 32) (.tuple #[Tt.val N T G (.slice sl.ao sl.n sl.cap),.int .i64 E])).put (some 24) (.tuple #[Tt.val N T G (.slice sl.ao sl.n sl.cap),.int .i64 E])).put (some 33) (Tt.val N T G (.slice sl.ao sl.n sl.cap))).put (some 34) (.int .i64 E)).put (some 7) (.pointer (some ⟨gt,0,none⟩))).put (some 8) (.int .i64 E))) (Tt.lay u gt N T G (.slice sl.ao sl.n sl.cap))) :
  (Code.region id #[o0,o1,o2,o3,o4,o5,o6,o7,o8,o9,o10,o11,o12,o13] true).wp Tryz.prog Q a w := by
 unfold Bl.chk14 at hc
 simp only [Bool.and_eq_true,beq_iff_eq] at hc
 obtain ⟨⟨⟨⟨⟨⟨⟨⟨⟨⟨⟨⟨⟨⟨⟨⟨⟨⟨⟨c0,c1⟩,c2⟩,c3⟩,c4⟩,c5⟩,c6⟩,c7⟩,c8⟩,c9⟩,c10⟩,c11⟩,c12⟩,c13⟩,c14⟩,c15⟩,c16⟩,c17⟩,c18⟩,c19⟩ := hc
 have hw0 : Below w.heap.size w w.drew := (Below.refl _ _).drew
 refine wp_region_held_drew (S := S) (by kernel_rfl) (hSB _ hw0) (fun hH => ?_)
 show wpAnyH Tryz.prog .any #[o0,o1,o2,o3,o4,o5,o6,o7,o8,o9,o10,o11,o12,o13] Q S 14 [false,false,false,false,false,false,false,false,false,false,false,false,false,false].toArray a w.drew
 refine Bl.take_if (i := 0) (oi := o0) rfl c0 c1 (by rw [hd0]; exact fun c a w => hQ c a _ _ w) y0 hH ?_
 rw [hd0]
 show wpAnyH Tryz.prog .any #[o0,o1,o2,o3,o4,o5,o6,o7,o8,o9,o10,o11,o12,o13] Q S 13 [true,false,false,false,false,false,false,false,false,false,false,false,false,false].toArray _ w.drew
 refine Bl.take_if (i := 1) (oi := o1) rfl c0 c2 (by rw [hd1]; exact fun c a w => hQ c a _ _ w) y1 hH ?_
 rw [hd1]
 show wpAnyH Tryz.prog .any #[o0,o1,o2,o3,o4,o5,o6,o7,o8,o9,o10,o11,o12,o13] Q S 12 [true,true,false,false,false,false,false,false,false,false,false,false,false,false].toArray _ w.drew
 refine Bl.take_if (i := 2) (oi := o2) rfl c0 c3 (by rw [hd2]; exact fun c a w => hQ c a _ _ w) y2 hH ?_
 rw [hd2]
 show wpAnyH Tryz.prog .any #[o0,o1,o2,o3,o4,o5,o6,o7,o8,o9,o10,o11,o12,o13] Q S 11 [true,true,true,false,false,false,false,false,false,false,false,false,false,false].toArray _ w.drew
 refine Bl.take_if (i := 3) (oi := o3) rfl c0 c4 (by rw [hd3]; exact fun c a w => hQ c a _ _ w) y3 hH ?_
 rw [hd3]
 show wpAnyH Tryz.prog .any #[o0,o1,o2,o3,o4,o5,o6,o7,o8,o9,o10,o11,o12,o13] Q S 10 [true,true,true,true,false,false,false,false,false,false,false,false,false,false].toArray _ w.drew
 refine Bl.take_if (i := 4) (oi := o4) rfl c0 c5 (by rw [hd4]; exact fun c a w => hQ c a _ _ w) y4 hH ?_
 rw [hd4]
 show wpAnyH Tryz.prog .any #[o0,o1,o2,o3,o4,o5,o6,o7,o8,o9,o10,o11,o12,o13] Q S 9 [true,true,true,true,true,false,false,false,false,false,false,false,false,false].toArray _ w.drew
 refine Bl.take_if (i := 5) (oi := o5) rfl c0 c6 (by rw [hd5]; exact fun c a w => hQ c a _ _ w) y5 hH ?_
 rw [hd5]
 show wpAnyH Tryz.prog .any #[o0,o1,o2,o3,o4,o5,o6,o7,o8,o9,o10,o11,o12,o13] Q S 8 [true,true,true,true,true,true,false,false,false,false,false,false,false,false].toArray _ w.drew
 refine Bl.take_if (i := 6) (oi := o6) rfl c0 c7 (by rw [hd6]; exact fun c a w => hQ c a _ _ w) y6 hH ?_
 rw [hd6]
 show wpAnyH Tryz.prog .any #[o0,o1,o2,o3,o4,o5,o6,o7,o8,o9,o10,o11,o12,o13] Q S 7 [true,true,true,true,true,true,true,false,false,false,false,false,false,false].toArray _ w.drew
 have BL := hw0
 have XB : ∀ x ∈ ([] : List Nat),w.heap.size ≤ x ∧ x < w.drew.heap.size := by simp
 refine Bl.all_if (rs := [7,11]) c8 (by simp) ?_
 intro i hi
 simp only [List.mem_cons,List.not_mem_nil,or_false] at hi
 rcases hi with rfl | rfl
 ·
  refine ⟨o7,rfl,fun K hK => ?_⟩
  refine Bl.step_call hg7 (Bl.enters ho7 (vs := #[v4,v6]) (by simp [Act.eval,Act.put,hsz,Array.getD_eq_getD_getElem?]) hf1 hn1 hb1 _) ((m1 [] _ BL XB).mono ?_)
  rintro e u1 ⟨N,T,G,sl,E,rfl,j1,b⟩
  have BL' := bchain BL b
  have hS2 := hSB _ BL'
  refine ⟨_,rfl,hK.out _ _ hS2 fun _ => ?_⟩
  clear hK K
  rw [hd7]
  show wpAnyH Tryz.prog .any #[o0,o1,o2,o3,o4,o5,o6,o7,o8,o9,o10,o11,o12,o13] Q S 6 [true,true,true,true,true,true,true,true,false,false,false,false,false,false].toArray _ _
  refine Bl.take_if (i := 8) (oi := o8) (v := .tuple #[Tt.val N T G (.slice sl.ao sl.n sl.cap),.int .i64 E]) rfl c0 c10 (by rw [hd8]; exact fun c a w => hQ c a _ _ w) (Bl.y_move hg8 ho8 (by simp [Act.put,hsz])) hS2 ?_
  rw [hd8]
  show wpAnyH Tryz.prog .any #[o0,o1,o2,o3,o4,o5,o6,o7,o8,o9,o10,o11,o12,o13] Q S 5 [true,true,true,true,true,true,true,true,true,false,false,false,false,false].toArray _ _
  refine Bl.take_if (i := 9) (oi := o9) (v := Tt.val N T G (.slice sl.ao sl.n sl.cap)) rfl c0 c11 (by rw [hd9]; exact fun c a w => hQ c a _ _ w) (Bl.y_ext 0 (.inl rfl) hg9 ho9 (v0 := Tt.val N T G (.slice sl.ao sl.n sl.cap)) (v1 := .int .i64 E) (by simp [Act.put,hsz])) hS2 ?_
  rw [hd9]
  show wpAnyH Tryz.prog .any #[o0,o1,o2,o3,o4,o5,o6,o7,o8,o9,o10,o11,o12,o13] Q S 4 [true,true,true,true,true,true,true,true,true,true,false,false,false,false].toArray _ _
  refine Bl.take_if (i := 10) (oi := o10) (v := .int .i64 E) rfl c0 c12 (by rw [hd10]; exact fun c a w => hQ c a _ _ w) (Bl.y_ext 1 (.inr rfl) hg10 ho10 (v0 := Tt.val N T G (.slice sl.ao sl.n sl.cap)) (v1 := .int .i64 E) (by simp [Act.put,hsz])) hS2 ?_
  rw [hd10]
  show wpAnyH Tryz.prog .any #[o0,o1,o2,o3,o4,o5,o6,o7,o8,o9,o10,o11,o12,o13] Q S 3 [true,true,true,true,true,true,true,true,true,true,true,false,false,false].toArray _ _
  refine Bl.one_if (i := 11) (oi := o11) rfl c16 (fun K hK => ?_)
  have b2 : Below u1.heap.size u1 (Tt.box u1 0 0 0 (.slice none 0 0)) := Tt.below_own _ _ _ _ _
  have L7 : w.heap.size ≤ u1.heap.size := BL'.size
  have BL := bchain BL' b2
  refine Bl.step_allocT hg11 ho11 (hK.out _ _ (hSB _ BL) fun _ => ?_)
  clear hK K
  rw [hd11]
  show wpAnyH Tryz.prog .any #[o0,o1,o2,o3,o4,o5,o6,o7,o8,o9,o10,o11,o12,o13] Q S 2 [true,true,true,true,true,true,true,true,true,true,true,true,false,false].toArray _ _
  have D := Tt.at_box u1 0 0 0 (.slice none 0 0)
  have J1 : J (u1.heap.size :: []) N T G sl E (Tt.box u1 0 0 0 (.slice none 0 0)) := a1 _ _ _ _ _ _ _ _ j1
  refine Bl.one_if (i := 12) (oi := o12) rfl c17 (fun K hK => ?_)
  refine Tt.step_put hg12 ho12 hd12 (N := N) (X := T) (G := G) (sl := sl) (by simp [Act.put,hsz]) (by simp [Act.put,hsz]) D (hK.out _ _ (hSx _ _ _ L7 (hSB _ BL)) fun hS3 => ?_)
  clear hK K
  show wpAnyH Tryz.prog .any #[o0,o1,o2,o3,o4,o5,o6,o7,o8,o9,o10,o11,o12,o13] Q S 1 [true,true,true,true,true,true,true,true,true,true,true,true,true,false].toArray _ _
  refine Bl.take_if (i := 13) (oi := o13) (v := .int .i64 E) rfl c0 c18 (by rw [hd13]; exact fun c a w => hQ c a _ _ w) (Bl.y_asg hg13 ho13 (by simp [Act.put,hsz])) hS3 ?_
  rw [hd13]
  show wpAnyH Tryz.prog .any #[o0,o1,o2,o3,o4,o5,o6,o7,o8,o9,o10,o11,o12,o13] Q S 0 [true,true,true,true,true,true,true,true,true,true,true,true,true,true].toArray _ _
  refine wpAnyH_done c19 ?_ _
  try simp only [Bl.sx7_32,Bl.sx7_24,Bl.sx7_33,Bl.sx7_34]
  exact k _ N T G sl E _ _ BL J1 (by simp) L7 D
 ·
  refine ⟨o11,rfl,fun K hK => ?_⟩
  have b2 : Below w.drew.heap.size w.drew (Tt.box w.drew 0 0 0 (.slice none 0 0)) := Tt.below_own _ _ _ _ _
  have L7 : w.heap.size ≤ w.drew.heap.size := BL.size
  have XB := Bl.xb_cons XB BL.size (show w.drew.heap.size < (Tt.box w.drew 0 0 0 (.slice none 0 0)).heap.size by rw [Tt.box_size]; exact Nat.lt_succ_self _)
  have BL := bchain BL b2
  refine Bl.step_allocT hg11 ho11 (hK.out _ _ (hSB _ BL) fun _ => ?_)
  clear hK K
  rw [hd11]
  show wpAnyH Tryz.prog .any #[o0,o1,o2,o3,o4,o5,o6,o7,o8,o9,o10,o11,o12,o13] Q S 6 [true,true,true,true,true,true,true,false,false,false,false,true,false,false].toArray _ _
  have D := Tt.at_box w.drew 0 0 0 (.slice none 0 0)
  refine Bl.one_if (i := 7) (oi := o7) rfl c9 (fun K hK => ?_)
  refine Bl.step_call hg7 (Bl.enters ho7 (vs := #[v4,v6]) (by simp [Act.eval,Act.put,hsz,Array.getD_eq_getD_getElem?]) hf1 hn1 hb1 _) ((m1 (w.drew.heap.size :: []) _ BL XB).mono ?_)
  rintro e u1 ⟨N,T,G,sl,E,rfl,j1,b⟩
  have BL' := bchain BL b
  have hS2 := hSB _ BL'
  refine ⟨_,rfl,hK.out _ _ hS2 fun _ => ?_⟩
  clear hK K
  rw [hd7]
  show wpAnyH Tryz.prog .any #[o0,o1,o2,o3,o4,o5,o6,o7,o8,o9,o10,o11,o12,o13] Q S 5 [true,true,true,true,true,true,true,true,false,false,false,true,false,false].toArray _ _
  refine Bl.take_if (i := 8) (oi := o8) (v := .tuple #[Tt.val N T G (.slice sl.ao sl.n sl.cap),.int .i64 E]) rfl c0 c13 (by rw [hd8]; exact fun c a w => hQ c a _ _ w) (Bl.y_move hg8 ho8 (by simp [Act.put,hsz])) hS2 ?_
  rw [hd8]
  show wpAnyH Tryz.prog .any #[o0,o1,o2,o3,o4,o5,o6,o7,o8,o9,o10,o11,o12,o13] Q S 4 [true,true,true,true,true,true,true,true,true,false,false,true,false,false].toArray _ _
  refine Bl.take_if (i := 9) (oi := o9) (v := Tt.val N T G (.slice sl.ao sl.n sl.cap)) rfl c0 c14 (by rw [hd9]; exact fun c a w => hQ c a _ _ w) (Bl.y_ext 0 (.inl rfl) hg9 ho9 (v0 := Tt.val N T G (.slice sl.ao sl.n sl.cap)) (v1 := .int .i64 E) (by simp [Act.put,hsz])) hS2 ?_
  rw [hd9]
  show wpAnyH Tryz.prog .any #[o0,o1,o2,o3,o4,o5,o6,o7,o8,o9,o10,o11,o12,o13] Q S 3 [true,true,true,true,true,true,true,true,true,true,false,true,false,false].toArray _ _
  refine Bl.take_if (i := 10) (oi := o10) (v := .int .i64 E) rfl c0 c15 (by rw [hd10]; exact fun c a w => hQ c a _ _ w) (Bl.y_ext 1 (.inr rfl) hg10 ho10 (v0 := Tt.val N T G (.slice sl.ao sl.n sl.cap)) (v1 := .int .i64 E) (by simp [Act.put,hsz])) hS2 ?_
  rw [hd10]
  show wpAnyH Tryz.prog .any #[o0,o1,o2,o3,o4,o5,o6,o7,o8,o9,o10,o11,o12,o13] Q S 2 [true,true,true,true,true,true,true,true,true,true,true,true,false,false].toArray _ _
  have D := D.below b
  have BL := BL'
  have J1 := j1
  refine Bl.one_if (i := 12) (oi := o12) rfl c17 (fun K hK => ?_)
  refine Tt.step_put hg12 ho12 hd12 (N := N) (X := T) (G := G) (sl := sl) (by simp [Act.put,hsz]) (by simp [Act.put,hsz]) D (hK.out _ _ (hSx _ _ _ L7 (hSB _ BL)) fun hS3 => ?_)
  clear hK K
  show wpAnyH Tryz.prog .any #[o0,o1,o2,o3,o4,o5,o6,o7,o8,o9,o10,o11,o12,o13] Q S 1 [true,true,true,true,true,true,true,true,true,true,true,true,true,false].toArray _ _
  refine Bl.take_if (i := 13) (oi := o13) (v := .int .i64 E) rfl c0 c18 (by rw [hd13]; exact fun c a w => hQ c a _ _ w) (Bl.y_asg hg13 ho13 (by simp [Act.put,hsz])) hS3 ?_
  rw [hd13]
  show wpAnyH Tryz.prog .any #[o0,o1,o2,o3,o4,o5,o6,o7,o8,o9,o10,o11,o12,o13] Q S 0 [true,true,true,true,true,true,true,true,true,true,true,true,true,true].toArray _ _
  refine wpAnyH_done c19 ?_ _
  try simp only [Bl.sx7_32,Bl.sx7_24,Bl.sx7_33,Bl.sx7_34]
  exact k _ N T G sl E _ _ BL J1 (by simp) L7 D
end Go.Proofs.YtjpfpojbalepeaaGreat
