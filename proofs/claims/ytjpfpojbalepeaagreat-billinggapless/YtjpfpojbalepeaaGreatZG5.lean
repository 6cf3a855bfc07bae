import Derived.Deep.RegionHeld3
import Derived.Laws.CopyOwn
import Derived.Laws.MakeOwn
import Derived.Lib.QuietBelow
import Derived.Deep.RegionLaw
import Derived.Deep.DeepCutAuto
import Derived.Deep.CutBlock
import Derived.Laws.Externs
import Derived.Laws.RangeAny
import Derived.Test.YtjpfpojbalepeaaGreatZG1
import Derived.Test.YtjpfpojbalepeaaGreatZG2
import Derived.Test.YtjpfpojbalepeaaGreatZG4
set_option maxRecDepth 100000
set_option linter.unusedVariables false
namespace Go.Proofs.YtjpfpojbalepeaaGreat
open Go.RowKit
open Mem
open Go.Sort (grow)
def Bl.zsv : Bl.Sv := ⟨⟨none,0,0⟩,⟨none,0,0⟩,⟨none,0,0⟩,⟨none,0,0⟩,⟨none,0,0⟩,0⟩
def Rp.Bk (u : World) (g : Nat) (r : Rp.T) : Prop := u.heap[g]? = some (.cells #[.int .i64 r.why,.int .i64 r.num,.int .i64 r.gross] 49 (0,0))
theorem Rp.Bk.lt {u : World} {g : Nat} {r : Rp.T} (h : Rp.Bk u g r) : g < u.heap.size := by
 obtain ⟨hl,_⟩ := Array.getElem?_eq_some_iff.1 h
 exact hl
theorem Rp.Bk.below {u v : World} {g : Nat} {r : Rp.T} (h : Rp.Bk u g r) (b : Below u.heap.size u v) : Rp.Bk v g r := (b.block g h.lt).trans h
structure Bl.Fr (w wr : World) (gs gr : Nat) : Prop where
 bel : Below w.heap.size w wr
 lo : w.heap.size ≤ gs
 nxt : gr = gs + 1
 st : Bl.At wr gs Bl.zsv
 rp : Rp.Bk wr gr ⟨0,0,0⟩
theorem Bl.Fr.below {w wr v : World} {gs gr : Nat} (h : Bl.Fr w wr gs gr) (k : Below wr.heap.size wr v) : Bl.Fr w v gs gr := ⟨bchain h.bel k,h.lo,h.nxt,h.st.below k,h.rp.below k⟩
theorem Bl.Fr.set {w wr : World} {gs gr g : Nat} (h : Bl.Fr w wr gs gr) (hl : w.heap.size ≤ g) (hn : g ≠ gs ∧ g ≠ gr) (o : Nat) (x : Value) : Bl.Fr w (wr.setCell ⟨g,o,none⟩ x) gs gr := by
 refine ⟨bset h.bel hl _ _,h.lo,h.nxt,?_,?_⟩
 ·
  unfold Bl.At
  rw [heap_setCell_other wr ⟨g,o,none⟩ gs x (Ne.symm hn.1)]
  exact h.st
 ·
  unfold Rp.Bk
  rw [heap_setCell_other wr ⟨g,o,none⟩ gr x (Ne.symm hn.2)]
  exact h.rp
theorem Bl.fr3 (w : World) (h : Bl.Sv) : ∃ U,((w.alloc (.cells #[.slice h.tab.ao h.tab.n h.tab.cap,.slice h.ser.ao h.ser.n h.ser.cap,.slice h.post.ao h.post.n h.post.cap,.slice h.book.ao h.book.n h.book.cap,.slice h.sess.ao h.sess.n h.sess.cap,.int .i64 h.next] 42)).alloc (.cells #[.slice none 0 0,.slice none 0 0,.slice none 0 0,.slice none 0 0,.slice none 0 0,.int .i64 0] 42)).alloc (.cells #[.int .i64 0,.int .i64 0,.int .i64 0] 49) = U ∧ Bl.At U w.heap.size h ∧ Bl.Fr w U (w.heap.size + 1) (w.heap.size + 1 + 1) := by
 have b1 := Bl.below_own w h
 have b2 := Bl.below_own (Bl.box w h) Bl.zsv
 have b3 : Below (Bl.box (Bl.box w h) Bl.zsv).heap.size (Bl.box (Bl.box w h) Bl.zsv) ((Bl.box (Bl.box w h) Bl.zsv).alloc (.cells #[.int .i64 0,.int .i64 0,.int .i64 0] 49)) := (Below.refl _ _).alloc (Nat.le_refl _) _
 refine ⟨_,rfl,((Bl.at_box w h).below b2).below b3,⟨bchain (bchain b1 b2) b3,Nat.le_succ _,rfl,?_,?_⟩⟩
 ·
  have := (Bl.at_box (Bl.box w h) Bl.zsv).below b3
  rw [Bl.box_size] at this
  exact this
 ·
  have := heap_alloc_new (Bl.box (Bl.box w h) Bl.zsv) (.cells #[.int .i64 0,.int .i64 0,.int .i64 0] 49)
  rw [Bl.box_size,Bl.box_size] at this
  exact this
theorem Bl.fr4 (w : World) (h : Bl.Sv) (o : Obj) : ∃ U,(((w.alloc (.cells #[.slice h.tab.ao h.tab.n h.tab.cap,.slice h.ser.ao h.ser.n h.ser.cap,.slice h.post.ao h.post.n h.post.cap,.slice h.book.ao h.book.n h.book.cap,.slice h.sess.ao h.sess.n h.sess.cap,.int .i64 h.next] 42)).alloc o).alloc (.cells #[.slice none 0 0,.slice none 0 0,.slice none 0 0,.slice none 0 0,.slice none 0 0,.int .i64 0] 42)).alloc (.cells #[.int .i64 0,.int .i64 0,.int .i64 0] 49) = U ∧ Bl.At U w.heap.size h ∧ Bl.Fr w U (w.heap.size + 1 + 1) (w.heap.size + 1 + 1 + 1) ∧ U.heap[w.heap.size + 1]? = some o := by
 have b1 := Bl.below_own w h
 have s1 : (Bl.box w h).heap.size = w.heap.size + 1 := Bl.box_size w h
 have b2 : Below (Bl.box w h).heap.size (Bl.box w h) ((Bl.box w h).alloc o) := (Below.refl _ _).alloc (Nat.le_refl _) _
 have s2 : ((Bl.box w h).alloc o).heap.size = w.heap.size + 1 + 1 := by rw [← s1]; simp
 obtain ⟨W,hW⟩ : ∃ W,(Bl.box w h).alloc o = W := ⟨_,rfl⟩
 have hO : W.heap[w.heap.size + 1]? = some o := by rw [← hW,← s1]; exact heap_alloc_new _ _
 rw [hW] at b2 s2
 have b3 := Bl.below_own W Bl.zsv
 have s3 : (Bl.box W Bl.zsv).heap.size = W.heap.size + 1 := Bl.box_size _ _
 have b4 : Below (Bl.box W Bl.zsv).heap.size (Bl.box W Bl.zsv) ((Bl.box W Bl.zsv).alloc (.cells #[.int .i64 0,.int .i64 0,.int .i64 0] 49)) := (Below.refl _ _).alloc (Nat.le_refl _) _
 refine ⟨_,rfl,?_⟩
 change Bl.At ((Bl.box ((Bl.box w h).alloc o) Bl.zsv).alloc (.cells #[.int .i64 0,.int .i64 0,.int .i64 0] 49)) w.heap.size h ∧ Bl.Fr w ((Bl.box ((Bl.box w h).alloc o) Bl.zsv).alloc (.cells #[.int .i64 0,.int .i64 0,.int .i64 0] 49)) _ _ ∧ ((Bl.box ((Bl.box w h).alloc o) Bl.zsv).alloc (.cells #[.int .i64 0,.int .i64 0,.int .i64 0] 49)).heap[w.heap.size + 1]? = _
 rw [hW]
 refine ⟨(((Bl.at_box w h).below b2).below b3).below b4,⟨bchain (bchain (bchain b1 b2) b3) b4,by omega,rfl,?_,?_⟩,?_⟩
 ·
  have := (Bl.at_box W Bl.zsv).below b4
  rw [s2] at this
  exact this
 ·
  have := heap_alloc_new (Bl.box W Bl.zsv) (.cells #[.int .i64 0,.int .i64 0,.int .i64 0] 49)
  rw [s3,s2] at this
  exact this
 ·
  rw [b4.block _ (by omega),b3.block _ (by omega)]
  exact hO
theorem Bl.al1 (w : World) (o : Obj) : Below w.heap.size w (w.alloc o) ∧ (w.alloc o).heap[w.heap.size]? = some o ∧ (w.alloc o).heap.size = w.heap.size + 1 := ⟨(Below.refl _ _).alloc (Nat.le_refl _) _,heap_alloc_new w o,by simp⟩
theorem Bl.al2 (w : World) (o0 o1 : Obj) : ∃ U,(w.alloc o0).alloc o1 = U ∧ Below w.heap.size w U ∧ U.heap[w.heap.size]? = some o0 ∧ U.heap[w.heap.size + 1]? = some o1 ∧ U.heap.size = w.heap.size + 1 + 1 := by
 obtain ⟨b1,h1,s1⟩ := Bl.al1 w o0
 obtain ⟨b2,h2,s2⟩ := Bl.al1 (w.alloc o0) o1
 rw [s1] at h2 s2
 exact ⟨_,rfl,bchain b1 b2,(b2.block _ (by omega)).trans h1,h2,s2⟩
theorem Bl.al3 (w : World) (o0 o1 o2 : Obj) : ∃ U,((w.alloc o0).alloc o1).alloc o2 = U ∧ Below w.heap.size w U ∧ U.heap[w.heap.size]? = some o0 ∧ U.heap[w.heap.size + 1]? = some o1 ∧ U.heap[w.heap.size + 1 + 1]? = some o2 ∧ U.heap.size = w.heap.size + 1 + 1 + 1 := by
 obtain ⟨V,rfl,b1,h0,h1,s1⟩ := Bl.al2 w o0 o1
 obtain ⟨b2,h2,s2⟩ := Bl.al1 ((w.alloc o0).alloc o1) o2
 rw [s1] at h2 s2
 exact ⟨_,rfl,bchain b1 b2,(b2.block _ (by omega)).trans h0,(b2.block _ (by omega)).trans h1,h2,s2⟩
theorem Bl.al4 (w : World) (o0 o1 o2 o3 : Obj) : ∃ U,(((w.alloc o0).alloc o1).alloc o2).alloc o3 = U ∧ Below w.heap.size w U ∧ U.heap[w.heap.size]? = some o0 ∧ U.heap[w.heap.size + 1]? = some o1 ∧ U.heap[w.heap.size + 1 + 1]? = some o2 ∧ U.heap[w.heap.size + 1 + 1 + 1]? = some o3 ∧ U.heap.size = w.heap.size + 1 + 1 + 1 + 1 := by
 obtain ⟨V,rfl,b1,h0,h1,h2,s1⟩ := Bl.al3 w o0 o1 o2
 obtain ⟨b2,h3,s2⟩ := Bl.al1 (((w.alloc o0).alloc o1).alloc o2) o3
 rw [s1] at h3 s2
 exact ⟨_,rfl,bchain b1 b2,(b2.block _ (by omega)).trans h0,(b2.block _ (by omega)).trans h1,(b2.block _ (by omega)).trans h2,h3,s2⟩
def Rp.rw' (r : Rp.T) : List Value := [.int .i64 r.why,.int .i64 r.num,.int .i64 r.gross]
def Rp.lay (w : World) (g : Nat) (r : Rp.T) : World := w.setRow g (Rp.rw' r).toArray
theorem Rp.infoR : (Tryz.prog.info? 49).map (·.size) = some 3 := by kernel_rfl
theorem Rp.one_cellR (r : Rp.T) : ∀ v ∈ Rp.rw' r,v.oneCell' = true := by
 intro v hv
 unfold Rp.rw' at hv
 simp only [List.mem_cons,List.not_mem_nil,or_false] at hv
 rcases hv with rfl | rfl | rfl <;> rfl
theorem Rp.Bk.lay {w : World} {g : Nat} {r0 : Rp.T} (hA : Rp.Bk w g r0) (r : Rp.T) : Rp.Bk (Rp.lay w g r) g r := setRow_heap w g _ _ 49 _ hA
theorem Rp.below_lay {B g : Nat} {w0 w : World} (hb : Below B w0 w) (hg : B ≤ g) (r : Rp.T) : Below B w0 (Rp.lay w g r) := below_setRow hb hg _
theorem Rp.wpl_load {ops : Array Oper} {rest : List Oper} {op : Oper} {a : Act} {w : World} {Q : Exit → Act → World → Prop} {t : Tmp} {g : Nat} {r : Rp.T} (hA : Rp.Bk w g r) (ho : op.op = .load 49 (.tmp t)) (hgd : op.guard = none)
  (hx : a.tmps.toList[t]? = some (.pointer (some ⟨g,0,none⟩))) (k : wpList Tryz.prog ops Q rest (a.put op.dst (Rp.val r)) w) : wpList Tryz.prog ops Q (op :: rest) a w :=
 wpList_load_row hgd 49 (.tmp t) ho g (Ca.evT hx) 49 (Rp.rw' r).toArray (0,0) _ hA Tryz.underlying49 rfl (by rw [Rp.infoR]; rfl) k
theorem Rp.wpl_put {ops : Array Oper} {rest : List Oper} {op : Oper} {a : Act} {w : World} {Q : Exit → Act → World → Prop} {t s : Tmp} {g : Nat} {r0 r : Rp.T} (hA : Rp.Bk w g r0) (ho : op.op = .store 49 (.tmp t) (.tmp s)) (hgd : op.guard = none)
  (hx : a.tmps.toList[t]? = some (.pointer (some ⟨g,0,none⟩))) (hy : a.tmps.toList[s]? = some (Rp.val r))
  (k : wpList Tryz.prog ops Q rest (a.put op.dst undef) (Rp.lay w g r)) : wpList Tryz.prog ops Q (op :: rest) a w :=
 wpList_store_row hgd 49 (.tmp t) (.tmp s) ho g (Rp.rw' r).toArray (Ca.evT hx) (Ca.evT hy) 49 (Rp.rw' r0).toArray hA (by rw [Rp.infoR]; rfl) rfl (all_oneCell_toArray (Rp.one_cellR r)) k
theorem Rp.wpl_new {ops : Array Oper} {rest : List Oper} {op : Oper} {a : Act} {w : World} {Q : Exit → Act → World → Prop} {t s : Tmp} {old : Array Value} {g : Nat} {r : Rp.T} (ho : op.op = .store 49 (.tmp t) (.tmp s)) (hgd : op.guard = none)
  (hx : a.tmps.toList[t]? = some (.pointer (some ⟨g,0,none⟩))) (hg : g = w.heap.size) (hy : a.tmps.toList[s]? = some (Rp.val r)) (hold : old.size = 3)
  (k : wpList Tryz.prog ops Q rest (a.put op.dst undef) (w.alloc (.cells (Rp.rw' r).toArray 49))) : wpList Tryz.prog ops Q (op :: rest) a (w.alloc (.cells old 49)) := by
 subst hg
 refine wpList_store_row hgd 49 (.tmp t) (.tmp s) ho w.heap.size (Rp.rw' r).toArray (Ca.evT hx) (Ca.evT hy) 49 old (heap_alloc_new w _) (by rw [Rp.infoR]; rfl) (by rw [hold]; rfl) (all_oneCell_toArray (Rp.one_cellR r)) ?_
 rw [Ca.set_rowW]
 exact k
theorem Bl.results2 {fn : Func} {p q : Tmp} (hf : fn.results = #[.cell p 42,.cell q 49]) {tmps : Array Value} {w : World} {gS gR : Nat} {h : Bl.Sv} {r : Rp.T} (hp : tmps.getD p undef = .pointer (some ⟨gS,0,none⟩)) (hq : tmps.getD q undef = .pointer (some ⟨gR,0,none⟩))
  (hS : Bl.At w gS h) (hR : Rp.Bk w gR r) : (results fn tmps).run Tryz.prog w = .ok (.tuple #[h.val,Rp.val r]) w := by
 have hp' : tmps[p]?.getD undef = .pointer (some ⟨gS,0,none⟩) := by simpa using hp
 have hq' : tmps[q]?.getD undef = .pointer (some ⟨gR,0,none⟩) := by simpa using hq
 have e1 := run_loadVar_row (P := Tryz.prog) w gS 42 42 (Bl.rv h).toArray (0,0) _ hS Tryz.underlying42 rfl (by rw [Bl.info]; rfl)
 have e2 := run_loadVar_row (P := Tryz.prog) w gR 49 49 (Rp.rw' r).toArray (0,0) _ hR Tryz.underlying49 rfl (by rw [Rp.infoR]; rfl)
 simp [results,hf,hp',hq',asAddr,e1,e2]
 exact ⟨rfl,rfl⟩
theorem Bl.results1 {fn : Func} {p : Tmp} (hf : fn.results = #[.cell p 42]) {tmps : Array Value} {w : World} {gS : Nat} {h : Bl.Sv} (hp : tmps.getD p undef = .pointer (some ⟨gS,0,none⟩)) (hS : Bl.At w gS h) : (results fn tmps).run Tryz.prog w = .ok h.val w :=
 results_cell_row hf tmps w gS 42 (Bl.rv h).toArray (0,0) _ hp hS Tryz.underlying42 rfl (by rw [Bl.info]; rfl)
theorem Rp.results1 {fn : Func} {p : Tmp} (hf : fn.results = #[.cell p 49]) {tmps : Array Value} {w : World} {g : Nat} {r : Rp.T} (hp : tmps.getD p undef = .pointer (some ⟨g,0,none⟩)) (hS : Rp.Bk w g r) : (results fn tmps).run Tryz.prog w = .ok (Rp.val r) w :=
 results_cell_row hf tmps w g 49 (Rp.rw' r).toArray (0,0) _ hp hS Tryz.underlying49 rfl (by rw [Rp.infoR]; rfl)
theorem Bl.At.away {u : World} {g : Nat} {h : Bl.Sv} (a : Bl.At u g h) {b : Nat} (hne : g ≠ b) (o : Nat) (x : Value) : Bl.At (u.setCell ⟨b,o,none⟩ x) g h := by
 unfold Bl.At
 rw [heap_setCell_other u ⟨b,o,none⟩ g x hne]
 exact a
theorem Rp.Bk.away {u : World} {g : Nat} {r : Rp.T} (a : Rp.Bk u g r) {b : Nat} (hne : g ≠ b) (o : Nat) (x : Value) : Rp.Bk (u.setCell ⟨b,o,none⟩ x) g r := by
 unfold Rp.Bk
 rw [heap_setCell_other u ⟨b,o,none⟩ g x hne]
 exact a
theorem Bl.At.other {w : World} {g b : Nat} {h : Bl.Sv} (hA : Bl.At w g h) (hne : g ≠ b) (vs : Array Value) : Bl.At (w.setRow b vs) g h := (setRow_other w b g vs hne).trans hA
theorem Rp.Bk.other {w : World} {g b : Nat} {r : Rp.T} (hA : Rp.Bk w g r) (hne : g ≠ b) (vs : Array Value) : Rp.Bk (w.setRow b vs) g r := (setRow_other w b g vs hne).trans hA
theorem Bl.Fr.rpS {w wr : World} {gS gR : Nat} (f : Bl.Fr w wr gS gR) (h : Bl.Sv) : Rp.Bk (Bl.lay wr gS h) gR ⟨0,0,0⟩ := f.rp.other (by have := f.nxt; omega) _
def Bl.out2 (w : World) (gS gR : Nat) (h : Bl.Sv) (r : Rp.T) : World := Rp.lay (Bl.lay w gS h) gR r
theorem Bl.kp_out2 {A gS gR : Nat} (w : World) (h1 : gS < A) (h2 : gR < A) (h : Bl.Sv) (r : Rp.T) : Kp A w (Bl.out2 w gS gR h r) := by
 refine (Bl.kp_lay w h1 h).trans ⟨fun b o ha hb => ?_,by simp [Bl.out2,Rp.lay,World.setRow]⟩
 have e : (Rp.lay (Bl.lay w gS h) gR r).heap[b]? = (Bl.lay w gS h).heap[b]? := setRow_other _ gR b _ (by omega)
 unfold Bl.out2 World.cell?
 simp only [e]
theorem Bl.Fr.out2 {w wr : World} {gS gR : Nat} (f : Bl.Fr w wr gS gR) (h : Bl.Sv) (r : Rp.T) : Below w.heap.size w (Bl.out2 wr gS gR h r) ∧ Bl.At (Bl.out2 wr gS gR h r) gS h ∧ Rp.Bk (Bl.out2 wr gS gR h r) gR r := by
 have hl := f.lo
 have hn := f.nxt
 exact ⟨Rp.below_lay (Bl.below_lay f.bel hl h) (by omega) r,(f.st.lay h).other (by omega) _,(f.rp.other (by omega) _).lay r⟩
theorem Bl.Fr.ret {w wr : World} {gS gR : Nat} (f : Bl.Fr w wr gS gR) {fn : Func} {p q : Tmp} (hf : fn.results = #[.cell p 42,.cell q 49]) {a : Act} {R : Ending → World → Prop} (h : Bl.Sv) (r : Rp.T)
  (hp : a.tmps.getD p undef = .pointer (some ⟨gS,0,none⟩)) (hq : a.tmps.getD q undef = .pointer (some ⟨gR,0,none⟩)) (hd : a.defers = []) (k : Below w.heap.size w (Bl.out2 wr gS gR h r) → R (.returned (.tuple #[h.val,Rp.val r])) (Bl.out2 wr gS gR h r)) :
  bodyPost Tryz.prog fn R .ret a (Bl.out2 wr gS gR h r) := by
 obtain ⟨h1,h2,h3⟩ := f.out2 h r
 exact bodyPost_ret (Bl.results2 hf hp hq h2 h3) hd (k h1)
theorem nw_nw {P : Nat → Prop} {u w : World} (h : u.heap.size ≤ w.heap.size) (b : Nat) (k : nw (nw P u) w b) : nw P u b := k.elim id fun q => .inr (Nat.le_trans h q)
theorem Bl.Lp.out2 {P : Nat → Prop} {w u v : World} {gS gR : Nat} {h h' : Bl.Sv} {s' : Bl.St} {r : Rp.T} (l : Bl.Lp (nw P u) v h' s') (hP : ∀ b,P b → b < w.heap.size) (h1 : w.heap.size ≤ gS) (h2 : gS < u.heap.size) (h3 : w.heap.size ≤ gR) (h4 : gR < u.heap.size) : Bl.Lp (nw P w) (Bl.out2 v gS gR h r) h' s' := by
 have n1 : ¬ nw P u gS := fun q => q.elim (fun z => by have := hP _ z; omega) (fun z => by omega)
 have n2 : ¬ nw P u gR := fun q => q.elim (fun z => by have := hP _ z; omega) (fun z => by omega)
 have hk : KpP (nw P u) v (Bl.out2 v gS gR h r) := (KpP.row v n1 _).trans (KpP.row _ n2 _)
 exact (l.kp hk).mono fun b q => q.elim .inl fun z => .inr (by omega)
section
variable {ops : Array Oper} {o : Oper} {a : Act} {w : World} {K : Act → World → Prop} {Q : Exit → Act → World → Prop} {E : Prop} {S : World → Prop}
theorem Bl.y_move {t : Tmp} {v : Value} (hgd : o.guard = none) (ho : o.op = .move (.tmp t)) (hp : a.tmps.toList[t]? = some v) : YieldsIf Tryz.prog ops S o v a := by
 refine .inl ⟨by simp [Region.wanted,hgd],fun u _ => ?_⟩
 simp only [execOp,ho,Ca.evT hp]
 simp [go_sem]
theorem Bl.y_load {t : Tmp} {g : Nat} {h : Bl.Sv} (hgd : o.guard = none) (ho : o.op = .load 42 (.tmp t)) (hp : a.tmps.toList[t]? = some (.pointer (some ⟨g,0,none⟩))) (hS : ∀ u,S u → Bl.At u g h) : YieldsIf Tryz.prog ops S o h.val a := by
 refine .inl ⟨by simp [Region.wanted,hgd],fun u hu => ?_⟩
 have e := Bl.run_load (hS u hu)
 simp only [execOp,ho,Ca.evT hp,Sem.run_bind,e,Result.andThen_ok]
 rfl
theorem Rp.y_load {t : Tmp} {g : Nat} {r : Rp.T} (hgd : o.guard = none) (ho : o.op = .load 49 (.tmp t)) (hp : a.tmps.toList[t]? = some (.pointer (some ⟨g,0,none⟩))) (hS : ∀ u,S u → Rp.Bk u g r) : YieldsIf Tryz.prog ops S o (Rp.val r) a := by
 refine .inl ⟨by simp [Region.wanted,hgd],fun u hu => ?_⟩
 have e := run_loadVar_row (P := Tryz.prog) u g 49 49 (Rp.rw' r).toArray (0,0) _ (hS u hu) Tryz.underlying49 rfl (by rw [Rp.infoR]; rfl)
 simp only [execOp,ho,Ca.evT hp,Instr.loadAt,Instr.sureAddr,Sem.run_bind,Sem.run_pure,Result.andThen_ok,e]
 rfl
theorem Bl.step_put {x y : Tmp} {g : Nat} {h0 h : Bl.Sv} (hgd : o.guard = none) (ho : o.op = .store 42 (.tmp x) (.tmp y)) (hd : o.dst = none) (hx : a.tmps.toList[x]? = some (.pointer (some ⟨g,0,none⟩))) (hy : a.tmps.toList[y]? = some h.val) (hA : Bl.At w g h0)
  (k : K a (Bl.lay w g h)) : if Region.wanted o (yielded ops a.tmps) = true then Oper.wp Tryz.prog o a w K Q else E := by
 have hw : Region.wanted o (yielded ops a.tmps) = true := by simp [Region.wanted,hgd]
 rw [if_pos hw]
 refine wp_store_row 42 (.tmp x) (.tmp y) ho g (Bl.rv h).toArray (Ca.evT hx) (Ca.evT hy) 42 (Bl.rv h0).toArray hA (by rw [Bl.info]; rfl) rfl (all_oneCell_toArray (Bl.one_cellS h)) ?_
 rw [hd]
 exact k
theorem Rp.step_put {x y : Tmp} {g : Nat} {r0 r : Rp.T} (hgd : o.guard = none) (ho : o.op = .store 49 (.tmp x) (.tmp y)) (hd : o.dst = none) (hx : a.tmps.toList[x]? = some (.pointer (some ⟨g,0,none⟩))) (hy : a.tmps.toList[y]? = some (Rp.val r)) (hA : Rp.Bk w g r0)
  (k : K a (Rp.lay w g r)) : if Region.wanted o (yielded ops a.tmps) = true then Oper.wp Tryz.prog o a w K Q else E := by
 have hw : Region.wanted o (yielded ops a.tmps) = true := by simp [Region.wanted,hgd]
 rw [if_pos hw]
 refine wp_store_row 49 (.tmp x) (.tmp y) ho g (Rp.rw' r).toArray (Ca.evT hx) (Ca.evT hy) 49 (Rp.rw' r0).toArray hA (by rw [Rp.infoR]; rfl) rfl (all_oneCell_toArray (Rp.one_cellR r)) ?_
 rw [hd]
 exact k
theorem Bl.step_call {f : FuncId} {args : Array Value} (hgd : o.guard = none) (hrun : (execOp a.eval o).run Tryz.prog w = .ok (.enter f args) w) (k : Calls Tryz.prog f args w fun e w' => ∃ v,e = .returned v ∧ K (a.put o.dst v) w') :
  if Region.wanted o (yielded ops a.tmps) = true then Oper.wp Tryz.prog o a w K Q else E := by
 have hw : Region.wanted o (yielded ops a.tmps) = true := by simp [Region.wanted,hgd]
 rw [if_pos hw]
 unfold Oper.wp
 rw [hrun,Oper.upon_enter]
 refine k.mono fun e w' hh => ?_
 obtain ⟨v,rfl,hk⟩ := hh
 exact hk
end
theorem Bl.enters {f : FuncId} {fn : Func} {c : Code} {o : Oper} {a : Act} {xs : Array Operand} {ty : Array TypeId} {vs : Array Value} (ho : o.op = .call { callee := .value (.func f), args := xs, argTypes := ty }) (hx : xs.map a.eval = vs) (hf : Tryz.prog.funcs[f]? = some fn) (hname : (fn.name == "runtime.NumGoroutine") = false) (hb : fn.body = some c) (u : World) :
  (execOp a.eval o).run Tryz.prog u = .ok (.enter f vs) u := by
 have h1 : fn.name ≠ "runtime.NumGoroutine" := by simpa using hname
 simp only [execOp,ho]
 simp [resolve,invoke,callFunc,hf,h1,hb,hx,go_sem]
def Bl.tk (ops : Array Oper) (l : List Bool) (i : Nat) : Bool := Region.free .any ops l.toArray i && (Region.ready .any ops l.toArray).contains i
theorem Bl.take_if {ops : Array Oper} {Q : Exit → Act → World → Prop} {S : World → Prop} {i : Nat} {oi : Oper} {v : Value} {fuel : Nat} {l : List Bool} {a : Act} {w : World} (hi : ops[i]? = some oi) (hs : Region.noSelect ops = true) (ht : Bl.tk ops l i = true)
  (hQ : ∀ c a w,Q (.panic c) (Act.put a oi.dst v) w → Q (.panic c) a w) (hy : YieldsIf Tryz.prog ops S oi v a) (hS : S w)
  (h : wpAnyH Tryz.prog .any ops Q S fuel (l.set i true).toArray (a.put oi.dst v) w) : wpAnyH Tryz.prog .any ops Q S (fuel + 1) l.toArray a w := by
 unfold Bl.tk at ht
 rw [Bool.and_eq_true] at ht
 refine wpAnyH_take hi hs ht.1 ht.2 hQ hy hS ?_
 simpa using h
theorem Bl.one_if {ops : Array Oper} {Q : Exit → Act → World → Prop} {S : World → Prop} {i : Nat} {oi : Oper} {fuel : Nat} {l : List Bool} {a : Act} {w : World} (hi : ops[i]? = some oi) (hr : Region.ready .any ops l.toArray = [i])
  (h : ∀ K' : Act → World → Prop,Shut (∀ a w,S w → (S w → wpAnyH Tryz.prog .any ops Q S fuel (l.set i true).toArray a w) → K' a w) → if Region.wanted oi (yielded ops a.tmps) = true then Oper.wp Tryz.prog oi a w K' Q else K' (a.put oi.dst undef) w) :
  wpAnyH Tryz.prog .any ops Q S (fuel + 1) l.toArray a w := by
 refine wpAnyH_ready (rs := [i]) hr (by simp) (AllReadyH.cons hi (fun K' hK => h K' ?_) AllReadyH.nil)
 intro a w hS hW
 exact hK.out a w hS fun hS => by simpa using hW hS
section
variable {id : Nat} {o0 o1 o2 o3 o4 : Oper} {a : Act} {w : World} {Q : Exit → Act → World → Prop}
def Bl.chk5 (ops : Array Oper) : Bool := Region.noSelect ops && Bl.tk ops [false,false,false,false,false] 0 && Bl.tk ops [true,false,false,false,false] 1 && (Region.ready .any ops #[true,true,false,false,false] == [2]) && (Region.ready .any ops #[true,true,true,false,false] == [3]) && (Region.ready .any ops #[true,true,true,true,false] == [4]) && (Region.ready .any ops #[true,true,true,true,true] == [])
theorem Bl.wp_refuse (g gS gR : Nat) (h h0 : Bl.Sv) (r0 : Rp.T) (n : Int) {x0 x1 x3 x4 y3 y4 : Tmp} (hA : Bl.At w g h) (hS : Bl.At w gS h0) (hR : Rp.Bk w gR r0) (hn : gS ≠ gR ∧ g ≠ gS ∧ g ≠ gR)
  (ho0 : o0.op = .load 42 (.tmp x0)) (hg0 : o0.guard = none) (ho1 : o1.op = .move (.tmp x1)) (hg1 : o1.guard = none) {x2 : Operand} {ty : Array TypeId} (ho2 : o2.op = .call { callee := .value (.func 26),args := #[x2],argTypes := ty }) (hg2 : o2.guard = none)
  (ho3 : o3.op = .store 42 (.tmp x3) (.tmp y3)) (hg3 : o3.guard = none) (hd3 : o3.dst = none) (ho4 : o4.op = .store 49 (.tmp x4) (.tmp y4)) (hg4 : o4.guard = none) (hd4 : o4.dst = none)
  (hc : Bl.chk5 #[o0,o1,o2,o3,o4] = true) (hQ0 : ∀ c a w,Q (.panic c) (Act.put a o0.dst h.val) w → Q (.panic c) a w) (hQ1 : ∀ c a w,Q (.panic c) (Act.put a o1.dst (.int .i64 n)) w → Q (.panic c) a w)
  (e0 : a.tmps.toList[x0]? = some (.pointer (some ⟨g,0,none⟩))) (e1 : (a.put o0.dst h.val).tmps.toList[x1]? = some (.int .i64 n))
  (e2 : ((a.put o0.dst h.val).put o1.dst (.int .i64 n)).eval x2 = .int .i64 n)
  (e3 : (((a.put o0.dst h.val).put o1.dst (.int .i64 n)).put o2.dst (Rp.val ⟨n,0,0⟩)).tmps.toList[x3]? = some (.pointer (some ⟨gS,0,none⟩)))
  (f3 : (((a.put o0.dst h.val).put o1.dst (.int .i64 n)).put o2.dst (Rp.val ⟨n,0,0⟩)).tmps.toList[y3]? = some h.val)
  (e4 : (((a.put o0.dst h.val).put o1.dst (.int .i64 n)).put o2.dst (Rp.val ⟨n,0,0⟩)).tmps.toList[x4]? = some (.pointer (some ⟨gR,0,none⟩)))
  (f4 : (((a.put o0.dst h.val).put o1.dst (.int .i64 n)).put o2.dst (Rp.val ⟨n,0,0⟩)).tmps.toList[y4]? = some (Rp.val ⟨n,0,0⟩))
  (k : ∀ w',Below w.heap.size w w' → Q .normal (((a.put o0.dst h.val).put o1.dst (.int .i64 n)).put o2.dst (Rp.val ⟨n,0,0⟩)) (Bl.out2 w' gS gR h ⟨n,0,0⟩)) :
  (Code.region id #[o0,o1,o2,o3,o4] true).wp Tryz.prog Q a w := by
 unfold Bl.chk5 at hc
 simp only [Bool.and_eq_true,beq_iff_eq] at hc
 obtain ⟨⟨⟨⟨⟨⟨c0,c1⟩,c2⟩,c3⟩,c4⟩,c5⟩,c6⟩ := hc
 refine wp_region_held_drew (S := fun u => Bl.At u g h) (by kernel_rfl) hA (fun hH => ?_)
 show wpAnyH Tryz.prog .any #[o0,o1,o2,o3,o4] Q _ 5 [false,false,false,false,false].toArray a w.drew
 refine Bl.take_if (i := 0) (oi := o0) rfl c0 c1 hQ0 (Bl.y_load hg0 ho0 e0 fun u hu => hu) hH ?_
 refine Bl.take_if (i := 1) (oi := o1) rfl c0 c2 hQ1 (Bl.y_move hg1 ho1 e1) hH ?_
 refine Bl.one_if (i := 2) (oi := o2) rfl c3 (fun K hK => ?_)
 refine Bl.step_call hg2 (Bl.enters ho2 (by simp [e2]) Tryz.func26 (by kernel_rfl) rfl _) ((bil_refusal n w w.drew (Below.refl _ _).drew).mono ?_)
 rintro e w' ⟨rfl,b⟩
 refine ⟨_,rfl,hK.out _ _ (hA.below b) fun hH' => ?_⟩
 clear hK K
 refine Bl.one_if (i := 3) (oi := o3) rfl c4 (fun K hK => ?_)
 refine Bl.step_put hg3 ho3 hd3 e3 f3 (hS.below b) (hK.out _ _ (hH'.other hn.2.1 _) fun hH2 => ?_)
 clear hK K
 refine Bl.one_if (i := 4) (oi := o4) rfl c5 (fun K hK => ?_)
 refine Rp.step_put hg4 ho4 hd4 e4 f4 ((hR.below b).other (Ne.symm hn.1) _) (hK.out _ _ (hH2.other hn.2.2 _) fun hH3 => ?_)
 clear hK K
 exact wpAnyH_done c6 (k w' b) _
def Bl.chk4 (ops : Array Oper) : Bool := Region.noSelect ops && Bl.tk ops [false,false,false,false] 0 && (Region.ready .any ops #[true,false,false,false] == [1]) && (Region.ready .any ops #[true,true,false,false] == [2]) && (Region.ready .any ops #[true,true,true,false] == [3]) && (Region.ready .any ops #[true,true,true,true] == [])
theorem Bl.wp_refuseC (g gS gR : Nat) (h h0 : Bl.Sv) (r0 : Rp.T) (n : Int) {x0 x3 x4 y3 y4 : Tmp} (hA : Bl.At w g h) (hS : Bl.At w gS h0) (hR : Rp.Bk w gR r0) (hn : gS ≠ gR ∧ g ≠ gS ∧ g ≠ gR)
  (ho0 : o0.op = .load 42 (.tmp x0)) (hg0 : o0.guard = none) {x2 : Operand} {ty : Array TypeId} (ho2 : o2.op = .call { callee := .value (.func 26),args := #[x2],argTypes := ty }) (hg2 : o2.guard = none)
  (ho3 : o3.op = .store 42 (.tmp x3) (.tmp y3)) (hg3 : o3.guard = none) (hd3 : o3.dst = none) (ho4 : o4.op = .store 49 (.tmp x4) (.tmp y4)) (hg4 : o4.guard = none) (hd4 : o4.dst = none)
  (hc : Bl.chk4 #[o0,o2,o3,o4] = true) (hQ0 : ∀ c a w,Q (.panic c) (Act.put a o0.dst h.val) w → Q (.panic c) a w)
  (e0 : a.tmps.toList[x0]? = some (.pointer (some ⟨g,0,none⟩)))
  (e2 : (a.put o0.dst h.val).eval x2 = .int .i64 n)
  (e3 : ((a.put o0.dst h.val).put o2.dst (Rp.val ⟨n,0,0⟩)).tmps.toList[x3]? = some (.pointer (some ⟨gS,0,none⟩)))
  (f3 : ((a.put o0.dst h.val).put o2.dst (Rp.val ⟨n,0,0⟩)).tmps.toList[y3]? = some h.val)
  (e4 : ((a.put o0.dst h.val).put o2.dst (Rp.val ⟨n,0,0⟩)).tmps.toList[x4]? = some (.pointer (some ⟨gR,0,none⟩)))
  (f4 : ((a.put o0.dst h.val).put o2.dst (Rp.val ⟨n,0,0⟩)).tmps.toList[y4]? = some (Rp.val ⟨n,0,0⟩))
  (k : ∀ w',Below w.heap.size w w' → Q .normal ((a.put o0.dst h.val).put o2.dst (Rp.val ⟨n,0,0⟩)) (Bl.out2 w' gS gR h ⟨n,0,0⟩)) :
  (Code.region id #[o0,o2,o3,o4] true).wp Tryz.prog Q a w := by
 unfold Bl.chk4 at hc
 simp only [Bool.and_eq_true,beq_iff_eq] at hc
 obtain ⟨⟨⟨⟨⟨c0,c1⟩,c3⟩,c4⟩,c5⟩,c6⟩ := hc
 refine wp_region_held_drew (S := fun u => Bl.At u g h) (by kernel_rfl) hA (fun hH => ?_)
 show wpAnyH Tryz.prog .any #[o0,o2,o3,o4] Q _ 4 [false,false,false,false].toArray a w.drew
 refine Bl.take_if (i := 0) (oi := o0) rfl c0 c1 hQ0 (Bl.y_load hg0 ho0 e0 fun u hu => hu) hH ?_
 refine Bl.one_if (i := 1) (oi := o2) rfl c3 (fun K hK => ?_)
 refine Bl.step_call hg2 (Bl.enters ho2 (by simp [e2]) Tryz.func26 (by kernel_rfl) rfl _) ((bil_refusal n w w.drew (Below.refl _ _).drew).mono ?_)
 rintro e w' ⟨rfl,b⟩
 refine ⟨_,rfl,hK.out _ _ (hA.below b) fun hH' => ?_⟩
 clear hK K
 refine Bl.one_if (i := 2) (oi := o3) rfl c4 (fun K hK => ?_)
 refine Bl.step_put hg3 ho3 hd3 e3 f3 (hS.below b) (hK.out _ _ (hH'.other hn.2.1 _) fun hH2 => ?_)
 clear hK K
 refine Bl.one_if (i := 3) (oi := o4) rfl c5 (fun K hK => ?_)
 refine Rp.step_put hg4 ho4 hd4 e4 f4 ((hR.below b).other (Ne.symm hn.1) _) (hK.out _ _ (hH2.other hn.2.2 _) fun hH3 => ?_)
 clear hK K
 exact wpAnyH_done c6 (k w' b) _
def Bl.chkP (ops : Array Oper) : Bool := Region.noSelect ops && Bl.tk ops [false,false,false,false] 0 && Bl.tk ops [true,false,false,false] 1 && (Region.ready .any ops #[true,true,false,false] == [2]) && (Region.ready .any ops #[true,true,true,false] == [3]) && (Region.ready .any ops #[true,true,true,true] == [])
theorem Bl.wp_pair (g gr gS gR : Nat) (h h0 : Bl.Sv) (r r0 : Rp.T) {x0 x1 x3 x4 y3 y4 : Tmp} (hA : Bl.At w g h) (hB : Rp.Bk w gr r) (hS : Bl.At w gS h0) (hR : Rp.Bk w gR r0) (hn : gS ≠ gR ∧ g ≠ gS ∧ g ≠ gR ∧ gr ≠ gS ∧ gr ≠ gR)
  (ho0 : o0.op = .load 42 (.tmp x0)) (hg0 : o0.guard = none) (ho1 : o1.op = .load 49 (.tmp x1)) (hg1 : o1.guard = none)
  (ho3 : o3.op = .store 42 (.tmp x3) (.tmp y3)) (hg3 : o3.guard = none) (hd3 : o3.dst = none) (ho4 : o4.op = .store 49 (.tmp x4) (.tmp y4)) (hg4 : o4.guard = none) (hd4 : o4.dst = none)
  (hc : Bl.chkP #[o0,o1,o3,o4] = true) (hQ0 : ∀ c a w,Q (.panic c) (Act.put a o0.dst h.val) w → Q (.panic c) a w) (hQ1 : ∀ c a w,Q (.panic c) (Act.put a o1.dst (Rp.val r)) w → Q (.panic c) a w)
  (e0 : a.tmps.toList[x0]? = some (.pointer (some ⟨g,0,none⟩))) (e1 : (a.put o0.dst h.val).tmps.toList[x1]? = some (.pointer (some ⟨gr,0,none⟩)))
  (e3 : ((a.put o0.dst h.val).put o1.dst (Rp.val r)).tmps.toList[x3]? = some (.pointer (some ⟨gS,0,none⟩)))
  (f3 : ((a.put o0.dst h.val).put o1.dst (Rp.val r)).tmps.toList[y3]? = some h.val)
  (e4 : ((a.put o0.dst h.val).put o1.dst (Rp.val r)).tmps.toList[x4]? = some (.pointer (some ⟨gR,0,none⟩)))
  (f4 : ((a.put o0.dst h.val).put o1.dst (Rp.val r)).tmps.toList[y4]? = some (Rp.val r))
  (k : Q .normal ((a.put o0.dst h.val).put o1.dst (Rp.val r)) (Bl.out2 w.drew gS gR h r)) :
  (Code.region id #[o0,o1,o3,o4] true).wp Tryz.prog Q a w := by
 unfold Bl.chkP at hc
 simp only [Bool.and_eq_true,beq_iff_eq] at hc
 obtain ⟨⟨⟨⟨⟨c0,c1⟩,c2⟩,c4⟩,c5⟩,c6⟩ := hc
 refine wp_region_held_drew (S := fun u => Bl.At u g h ∧ Rp.Bk u gr r) (by kernel_rfl) ⟨hA,hB⟩ (fun hH => ?_)
 show wpAnyH Tryz.prog .any #[o0,o1,o3,o4] Q _ 4 [false,false,false,false].toArray a w.drew
 refine Bl.take_if (i := 0) (oi := o0) rfl c0 c1 hQ0 (Bl.y_load hg0 ho0 e0 fun u hu => hu.1) hH ?_
 refine Bl.take_if (i := 1) (oi := o1) rfl c0 c2 hQ1 (Rp.y_load hg1 ho1 e1 fun u hu => hu.2) hH ?_
 refine Bl.one_if (i := 2) (oi := o3) rfl c4 (fun K hK => ?_)
 refine Bl.step_put hg3 ho3 hd3 e3 f3 hS (hK.out _ _ ⟨hH.1.other hn.2.1 _,hH.2.other hn.2.2.2.1 _⟩ fun hH2 => ?_)
 clear hK K
 refine Bl.one_if (i := 3) (oi := o4) rfl c5 (fun K hK => ?_)
 refine Rp.step_put hg4 ho4 hd4 e4 f4 (Rp.Bk.other (w := w.drew) hR (Ne.symm hn.1) _) (hK.out _ _ ⟨hH2.1.other hn.2.2.1 _,hH2.2.other hn.2.2.2.2 _⟩ fun hH3 => ?_)
 clear hK K
 exact wpAnyH_done c6 k _
end
end Go.Proofs.YtjpfpojbalepeaaGreat
namespace Go.Proofs.YtjpfpojbalepeaaGreat
open Go.RowKit
section
variable {P : Program} {ops : Array Oper} {Q : Exit → Act → World → Prop} {md : Region.Mode} {S : World → Prop} {x : Nat}
def anyG (P : Program) (md : Region.Mode) (ops : Array Oper) (Q : Exit → Act → World → Prop) (S : World → Prop) (x : Nat) : Nat → Array Bool → Act → World → Prop
 | 0,listed,a,w => Region.ready md ops listed = [] ∧ Q .normal a w
 | n + 1,listed,a,w => (Region.ready md ops listed = [] → Q .normal a w) ∧
  ∀ i ∈ Region.ready md ops listed,wpOp P ops Q i (fun a' w' => (x ≤ i ∨ S w') ∧ anyG P md ops Q S x n (listed.setIfInBounds i true) a' w') a w
theorem any_of_g : ∀ (n : Nat) (listed : Array Bool) (a : Act) (w : World),anyG P md ops Q S x n listed a w → wpAny P md ops Q n listed a w
 | 0,_,_,_,h => h
 | n + 1,_,_,_,h => ⟨h.1,fun i hi => wpOp_mono (fun a' w' k => any_of_g n _ a' w' k.2) (h.2 i hi)⟩
def waitsG (md : Region.Mode) (ops : Array Oper) (x i : Nat) (D : List Nat) : Bool := (D.all fun k => waits md ops k i || D.any fun m => waits md ops k m) && ((List.range ops.size).all fun j => decide (j < x) || D.contains j)
def openG (listed : Array Bool) (D : List Nat) : Bool := D.all fun k => listed.getD k true == false
theorem not_ready_of {i j : Nat} {listed : Array Bool} (hw : waits md ops j i = true) (hu : listed.getD i true = false) : j ∉ Region.ready md ops listed := by
 intro hx
 obtain ⟨_,ox,hox,hall⟩ := mem_ready.1 hx
 unfold waits at hw
 rw [hox] at hw
 simp only [Array.any_eq_true] at hw
 obtain ⟨k,hk,hb⟩ := hw
 rw [Bool.and_eq_true,beq_iff_eq] at hb
 have h1 := hall _ (Array.getElem_mem hk) hb.1
 rw [hb.2] at h1
 rcases Nat.lt_or_ge i listed.size with h' | h'
 ·
  simp [h'] at hu h1
  rw [hu] at h1
  cases h1
 · simp [Array.getElem?_eq_none h'] at h1
theorem not_readyG {i j : Nat} {listed : Array Bool} {D : List Nat} (hw : waitsG md ops x i D = true) (ho : openG listed D = true) (hr : i ∈ Region.ready md ops listed) (hj : j ∈ Region.ready md ops listed) : j ∉ D ∧ ¬ x ≤ j := by
 unfold waitsG at hw
 rw [Bool.and_eq_true] at hw
 have hD : j ∉ D := by
  intro hd
  have h1 := List.all_eq_true.1 hw.1 j hd
  rw [Bool.or_eq_true] at h1
  rcases h1 with h1 | h1
  · exact not_ready_of h1 (mem_ready.1 hr).1 hj
  ·
   obtain ⟨m,hm,h2⟩ := List.any_eq_true.1 h1
   unfold openG at ho
   have h3 := List.all_eq_true.1 ho m hm
   exact not_ready_of h2 (beq_iff_eq.1 h3) hj
 refine ⟨hD,fun hx => ?_⟩
 obtain ⟨_,oj,hoj,_⟩ := mem_ready.1 hj
 obtain ⟨hlt,_⟩ := Array.getElem?_eq_some_iff.1 hoj
 have h1 := List.all_eq_true.1 hw.2 j (List.mem_range.2 hlt)
 rw [Bool.or_eq_true,decide_eq_true_iff] at h1
 rcases h1 with h1 | h1
 · omega
 · exact hD (by simpa using h1)
theorem openG_set {listed : Array Bool} {D : List Nat} {j : Nat} (h : openG listed D = true) (hj : j ∉ D) : openG (listed.setIfInBounds j true) D = true := by
 unfold openG at h ⊢
 refine List.all_eq_true.2 fun k hk => ?_
 have h1 := List.all_eq_true.1 h k hk
 have hne : j ≠ k := fun e => hj (e ▸ hk)
 rw [getD_set_ne true hne]
 exact h1
theorem anyG_first {i : Nat} {oi : Oper} {v : Value} (hi : ops[i]? = some oi) (hsel : ∀ (j : Nat) (o : Oper) cs b,ops[j]? = some o → o.op ≠ .select cs b)
  (hQ : ∀ c a w,Q (.panic c) (a.put oi.dst v) w → Q (.panic c) a w) {D : List Nat} (hwt : waitsG md ops x i D = true) :
  ∀ (n : Nat) (listed : Array Bool) (a : Act) (w : World),openG listed D = true →
   (∀ j oj,ops[j]? = some oj → j ≠ i → listed.getD j true = false → (∀ e ∈ oj.after,Region.binds md e = true → e.on ≠ i) → oi.apart ops oj = true) →
   i ∈ Region.ready md ops listed → YieldsIf P ops S oi v a → S w →
   anyG P md ops Q S x n (listed.setIfInBounds i true) (a.put oi.dst v) w → anyG P md ops Q S x (n + 1) listed a w := by
 intro n
 induction n with
 | zero =>
  intro listed a w _ _ hr hy hS H
  refine ⟨fun h => (by rw [h] at hr; cases hr),fun j hj => ?_⟩
  by_cases e : j = i
  ·
   subst e
   exact hy.wpOp hi hS ⟨.inr hS,H⟩
  ·
   have k := ready_mono hj e
   rw [H.1] at k
   cases k
 | succ n ih =>
  intro listed a w ho hfree hr hy hS H
  refine ⟨fun h => (by rw [h] at hr; cases hr),fun j hj => ?_⟩
  by_cases e : j = i
  ·
   subst e
   exact hy.wpOp hi hS ⟨.inr hS,H⟩
  ·
   obtain ⟨hjD,hjx⟩ := not_readyG hwt ho hr hj
   have h1 := H.2 j (ready_mono hj e)
   obtain ⟨hjun,oj,hoj,hall⟩ := mem_ready.1 hj
   have hnot : ∀ e ∈ oj.after,Region.binds md e = true → e.on ≠ i := fun e he hb heq => by
    have h1 := hall e he hb
    have h0 := (mem_ready.1 hr).1
    rw [heq] at h1
    rcases Nat.lt_or_ge i listed.size with h' | h'
    ·
     simp [h'] at h0 h1
     rw [h0] at h1
     cases h1
    · simp [Array.getElem?_eq_none h'] at h1
   have h2 := wpOp_putIf hoj (hfree j oj hoj e hjun hnot) (fun cs b => hsel i oi cs b hi) (fun cs b => hsel j oj cs b hoj) hQ hy h1
   refine wpOp_mono (fun a' w' h3 => ?_) h2
   have hS' : S w' := h3.2.1.resolve_left hjx
   refine ⟨.inr hS',ih (listed.setIfInBounds j true) a' w' (openG_set ho hjD) ?_ (ready_mono hr (Ne.symm e)) h3.1 hS' ?_⟩
   ·
    intro k ok hk hki hun hno
    refine hfree k ok hk hki ?_ hno
    by_cases hjk : j = k
    ·
     subst hjk
     exact hjun
    ·
     rw [getD_set_ne true hjk] at hun
     exact hun
   ·
    rw [Array.setIfInBounds_comm _ _ e]
    exact h3.2.2
theorem anyG_done {listed : Array Bool} {a : Act} {w : World} (hr : Region.ready md ops listed = []) (h : Q .normal a w) : ∀ n,anyG P md ops Q S x n listed a w
 | 0 => ⟨hr,h⟩
 | _ + 1 => ⟨fun _ => h,by rw [hr]; simp⟩
end
theorem Bl.tkG {ops : Array Oper} {Q : Exit → Act → World → Prop} {S : World → Prop} {x i : Nat} {oi : Oper} {v : Value} {fuel : Nat} {l : List Bool} {a : Act} {w : World} (hi : ops[i]? = some oi) (hs : Region.noSelect ops = true) (ht : Bl.tk ops l i = true) {D : List Nat} (hwt : (waitsG .any ops x i D && openG l.toArray D) = true)
  (hQ : ∀ c a w,Q (.panic c) (Act.put a oi.dst v) w → Q (.panic c) a w) (hy : YieldsIf Tryz.prog ops S oi v a) (hS : S w)
  (h : anyG Tryz.prog .any ops Q S x fuel (l.set i true).toArray (a.put oi.dst v) w) : anyG Tryz.prog .any ops Q S x (fuel + 1) l.toArray a w := by
 unfold Bl.tk at ht
 rw [Bool.and_eq_true] at ht
 rw [Bool.and_eq_true] at hwt
 refine anyG_first hi (Region.noSelect_spec hs) hQ hwt.1 fuel _ a w hwt.2 (Region.free_spec hi ht.1) (by simpa using ht.2) hy hS ?_
 simpa using h
theorem Bl.oneG {ops : Array Oper} {Q : Exit → Act → World → Prop} {S : World → Prop} {x i : Nat} {oi : Oper} {fuel : Nat} {l : List Bool} {a : Act} {w : World} (hi : ops[i]? = some oi) (hr : Region.ready .any ops l.toArray = [i])
  (h : ∀ K' : Act → World → Prop,Shut (∀ a w,(x ≤ i ∨ S w) → anyG Tryz.prog .any ops Q S x fuel (l.set i true).toArray a w → K' a w) → if Region.wanted oi (yielded ops a.tmps) = true then Oper.wp Tryz.prog oi a w K' Q else K' (a.put oi.dst undef) w) :
  anyG Tryz.prog .any ops Q S x (fuel + 1) l.toArray a w := by
 refine ⟨fun k => (by rw [hr] at k; cases k),fun j hj => ?_⟩
 rw [hr] at hj
 obtain rfl := List.mem_singleton.1 hj
 refine wpOp_step hi (fun K' hK => h K' fun a w hS hW => hK a w ⟨hS,?_⟩)
 simpa using hW
theorem Bl.startG {ops : Array Oper} {Q : Exit → Act → World → Prop} {S : World → Prop} {x id : Nat} {a : Act} {w : World} (h : anyG Tryz.prog .any ops Q S x ops.size (Array.replicate ops.size false) a w.drew) : (Code.region id ops true).wp Tryz.prog Q a w :=
 wp_region_any (by kernel_rfl) (any_of_g _ _ _ _ h)
end Go.Proofs.YtjpfpojbalepeaaGreat
namespace Go.Proofs.YtjpfpojbalepeaaGreat.Sn
open Go.RowKit
open Mem
def Block (w : World) (g : Nat) (ts : List T) : Prop := w.heap[g]? = some (.cells (ts.flatMap rv).toArray 82 (0,0))
theorem Block.lt {w : World} {g : Nat} {ts : List T} (h : Block w g ts) : g < w.heap.size := by
 obtain ⟨hg,_⟩ := Array.getElem?_eq_some_iff.1 h
 exact hg
theorem Block.below {w u : World} {g : Nat} {ts : List T} (h : Block w g ts) (k : Below w.heap.size w u) : Block u g ts := (k.block g h.lt).trans h
theorem Block.row {w : World} {g : Nat} {ts : List T} (h : Block w g ts) (k : Nat) (hk : k < ts.length) : At w g (k * 5) ts[k] := by
 have hcell : ∀ p,p < 5 → w.cell? ⟨g,k * 5 + p,none⟩ = (rv ts[k])[p]? := by
  intro p hp
  rw [cell_of_row w g _ _ _ _ h,← flat_at ts k p hk hp]
  simp
 exact ⟨hcell 0 (by omega),hcell 1 (by omega),hcell 2 (by omega),hcell 3 (by omega),hcell 4 (by omega)⟩
theorem Block.ls {w : World} {g : Nat} {ts zs : List T} (h : Block w g (ts ++ zs)) (n cap : Nat) (hn : n = ts.length) (hc : n ≤ cap) (hm : cap ≤ 9223372036854775807) (hs : ∀ r ∈ ts,Short r) : Ls w (some ⟨g,0,none⟩) n cap ts := by
 refine ⟨hn,hc,hm,(fun k => by cases k),.inr ⟨g,0,rfl,fun k hk => ?_⟩,hs⟩
 have hr := h.row k (by rw [List.length_append]; omega)
 rw [List.getElem_append_left hk] at hr
 rw [Nat.zero_add]
 exact hr
def zeros (n : Nat) : Array Value := ((List.replicate n zero).flatMap rv).toArray
theorem sizeZ : (Tryz.prog.info? 82).map (·.size) = some 5 := by kernel_rfl
theorem made (n : Nat) : madeCells zeroV.cells (n * 5) = zeros n := by
 apply Array.ext_getElem?
 intro j
 by_cases hj : j < n * 5
 ·
  obtain ⟨k,p,rfl,hp⟩ : ∃ k p,j = k * 5 + p ∧ p < 5 := ⟨j / 5,j % 5,by omega,by omega⟩
  have hk : k < n := by omega
  have hz : (zeros n)[k * 5 + p]? = (rv zero)[p]? := by
   unfold zeros
   rw [List.getElem?_toArray,flat_at (List.replicate n zero) k p (by simpa using hk) hp,List.getElem_replicate]
  rw [hz]
  have e : (k * 5 + p) % 5 = p := by omega
  have hp' : p = 0 ∨ p = 1 ∨ p = 2 ∨ p = 3 ∨ p = 4 := by omega
  unfold madeCells
  rw [Array.getElem?_map,Array.getElem?_range,if_pos hj]
  simp only [Option.map_some]
  rw [show zeroV.cells.size = 5 from rfl,e]
  rcases hp' with rfl | rfl | rfl | rfl | rfl <;> rfl
 ·
  rw [Array.getElem?_eq_none (by rw [size_madeCells]; omega),Array.getElem?_eq_none]
  unfold zeros
  rw [List.size_toArray,flat_len,List.length_replicate]
  omega
theorem make (n : Nat) (hn : n ≤ 100000) (u : World) : (Instr.makeSlice 40 (.int .i64 (n : Int)) (.int .i64 (n : Int))).run Tryz.prog u =
  .ok (.slice (some ⟨u.heap.size,0,none⟩) n n) (u.alloc (.cells (zeros n) 82)) := by
 obtain ⟨i0,hi,hz0,hz1,hz2⟩ := info_parts info
 have h := run_make (P := Tryz.prog) u 40 82 i0 zeroV Tryz.underlying40 hi hz0 .i64 .i64 (n : Int) (n : Int) (by omega) (Int.le_refl _) (by rw [hz2]; omega) (by omega)
 rw [hz1,Int.toNat_natCast,made] at h
 exact h
theorem block_made (u : World) (n : Nat) : Block (u.alloc (.cells (zeros n) 82)) u.heap.size (List.replicate n zero) := heap_alloc_new u _
theorem copy (u : World) (g : Nat) (ts : List T) (dCap : Nat) (ao : Option Addr) (n cap : Nat) (rs : List T) (hb : Block u g (List.replicate n zero ++ ts)) (hn : n = rs.length) (hs : Seg u ao rs) :
  ∃ u',(Builtin.copy_ #[40,40] 3 #[.slice (some ⟨g,0,none⟩) (n + ts.length) dCap,.slice ao n cap]).run Tryz.prog u = .ok (goInt n) u' ∧ Block u' g (rs ++ ts) ∧ (∀ B w0,Below B w0 u → B ≤ g → Below B w0 u') ∧ u'.heap.size = u.heap.size := by
 obtain ⟨i0,hi,hiK⟩ := Option.map_eq_some_iff.1 sizeZ
 have hmin : Nat.min n (n + ts.length) = n := Nat.min_eq_left (by omega)
 rcases hs with e | ⟨b,off,rfl,hc⟩
 ·
  subst e
  obtain rfl : n = 0 := hn
  refine ⟨u,?_,by simpa using hb,fun _ _ h _ => h,rfl⟩
  have hl : ∀ (x : Addr),(loadCells x 0).run Tryz.prog u = .ok #[] u := fun x => by simpa using run_loadCells_list (P := Tryz.prog) u x [] (by simp)
  cases ao <;> simp [Builtin.copy_,run_underlying Tryz.underlying40,Builtin.lenOf,Builtin.firstCells,sizeOf,typeInfo,hi,storeCells,hl]
 ·
  have hl := run_loadCells_list (P := Tryz.prog) u ⟨b,off,none⟩ (rs.flatMap rv) (fun j v hv => news_of hc j v hv)
  have hst := run_storeCells_at Tryz.prog g 0 82 (rs.flatMap rv) 0 _ u hb (by rw [List.size_toArray,flat_len,flat_len,List.length_append,List.length_replicate]; omega) (one_cell rs)
  have hlen : (rs.flatMap rv).length = n * 5 := by rw [flat_len,hn]
  have e : (((List.replicate n zero ++ ts).flatMap rv).toArray.toList.take (0 + 0) ++ rs.flatMap rv ++ ((List.replicate n zero ++ ts).flatMap rv).toArray.toList.drop (0 + 0 + (rs.flatMap rv).length)) = (rs ++ ts).flatMap rv := by
   rw [List.toList_toArray,List.take_zero,List.nil_append,Nat.zero_add,hlen,List.flatMap_append,List.flatMap_append,List.drop_left' (by rw [flat_len,List.length_replicate])]
  rw [e] at hst
  refine ⟨u.setRow g ((rs ++ ts).flatMap rv).toArray,?_,setRow_heap u g _ _ 82 _ hb,fun B w0 h hB => below_setRow h hB _,by simp [World.setRow]⟩
  rw [hlen] at hl
  simp [Builtin.copy_,run_underlying Tryz.underlying40,Builtin.lenOf,Builtin.firstCells,sizeOf,typeInfo,hi,hiK,hmin,hl,hst]
theorem set_right {a : T} (X : List Value) (k p : Nat) (v : Value) : (rv a ++ X).set ((k + 1) * 5 + p) v = rv a ++ X.set (k * 5 + p) v := by
 rw [List.set_append_right _ _ (by rw [rv_len]; omega),rv_len,show (k + 1) * 5 + p - 5 = k * 5 + p by omega]
theorem flat_set : ∀ (ts : List T) (k : Nat) (r : T),k < ts.length → (ts.set k r).flatMap rv = ((((((ts.flatMap rv).set (k * 5) (.int .i64 r.id)).set (k * 5 + 1) (.int .i64 r.last)).set (k * 5 + 2) (.int .i64 r.why)).set (k * 5 + 3) (.int .i64 r.num)).set (k * 5 + 4) (.int .i64 r.gross))
 | a :: l,0,r,_ => rfl
 | a :: l,k + 1,r,h => by
  have ih := flat_set l k r (by simpa using h)
  have e0 := fun (X : List Value) (v : Value) => set_right (a := a) X k 0 v
  simp only [Nat.add_zero] at e0
  rw [List.set_cons_succ,List.flatMap_cons,ih,List.flatMap_cons,e0,set_right,set_right,set_right,set_right]
theorem below_store {B g : Nat} {w0 w : World} (h : Below B w0 w) (hg : B ≤ g) (k : Nat) (x0 x1 x2 x3 x4 : Value) :
  Below B w0 (((((w.setCell ⟨g,k * 5,none⟩ x0).setCell ⟨g,k * 5 + 1,none⟩ x1).setCell ⟨g,k * 5 + 2,none⟩ x2).setCell ⟨g,k * 5 + 3,none⟩ x3).setCell ⟨g,k * 5 + 4,none⟩ x4) :=
 (((((h.setCell hg x0).setCell hg x1).setCell hg x2).setCell hg x3).setCell hg x4)
theorem own_store {w : World} {B g n cap : Nat} {M : List T} (h : Own w B (.slice (some ⟨g,0,none⟩) n cap) M) (k : Nat) (hk : k < M.length) (r : T) :
  Own (((((w.setCell ⟨g,k * 5,none⟩ (.int .i64 r.id)).setCell ⟨g,k * 5 + 1,none⟩ (.int .i64 r.last)).setCell ⟨g,k * 5 + 2,none⟩ (.int .i64 r.why)).setCell ⟨g,k * 5 + 3,none⟩ (.int .i64 r.num)).setCell ⟨g,k * 5 + 4,none⟩ (.int .i64 r.gross)) B (.slice (some ⟨g,0,none⟩) n cap) (M.set k r) := by
 rcases h.2 with ⟨h',_⟩ | ⟨g',cap',cur,h',hb,hg,hnc,hcm,hcs,htake⟩
 · cases h'
 ·
  simp only [Value.slice.injEq,Option.some.injEq,Addr.mk.injEq,and_true] at h'
  obtain ⟨e1,e2,e3⟩ := h'
  subst e1 e3
  have h1 := heap_setCell_same _ g (k * 5) _ _ (.int .i64 r.id) hg
  have h2 := heap_setCell_same _ g (k * 5 + 1) _ _ (.int .i64 r.last) h1
  have h3 := heap_setCell_same _ g (k * 5 + 2) _ _ (.int .i64 r.why) h2
  have h4 := heap_setCell_same _ g (k * 5 + 3) _ _ (.int .i64 r.num) h3
  have h5 := heap_setCell_same _ g (k * 5 + 4) _ _ (.int .i64 r.gross) h4
  refine ⟨by rw [flat_len],.inr ⟨g,cap,_,by rw [List.length_set,e2],hb,h5,by rw [List.length_set]; exact hnc,hcm,by simpa using hcs,?_⟩⟩
  rw [List.length_set,flat_set M k r hk]
  simp only [Array.toList_setIfInBounds]
  rw [← htake]
  simp only [List.take_set]
theorem own_at {w : World} {B g n cap : Nat} {M : List T} (h : Own w B (.slice (some ⟨g,0,none⟩) n cap) M) (k : Nat) (hk : k < M.length) : At w g (k * 5) M[k] ∧ (∀ o,w.frozen? ⟨g,o,none⟩ = false) ∧ B ≤ g := by
 rcases h.2 with ⟨h',_⟩ | ⟨g',cap',cur,h',hb,hg,hnc,hcm,hcs,htake⟩
 · cases h'
 ·
  simp only [Value.slice.injEq,Option.some.injEq,Addr.mk.injEq,and_true] at h'
  obtain ⟨e1,e2,e3⟩ := h'
  subst e1 e3
  have hcell : ∀ p,p < 5 → w.cell? ⟨g,k * 5 + p,none⟩ = (rv M[k])[p]? := by
   intro p hp
   rw [cell_of_row w g _ _ _ _ hg,← flat_at M k p hk hp,← htake,List.getElem?_take_of_lt (by omega)]
   simp
  exact ⟨⟨hcell 0 (by omega),hcell 1 (by omega),hcell 2 (by omega),hcell 3 (by omega),hcell 4 (by omega)⟩,fun o => frozen_of_row w g o _ _ hg,hb⟩
theorem own_of_block {w : World} {B g n : Nat} {M : List T} (h : Block w g M) (hB : B ≤ g) (hn : n = M.length) (hm : n ≤ 100000) : Own w B (.slice (some ⟨g,0,none⟩) n n) M := by
 subst hn
 exact ⟨by rw [flat_len],.inr ⟨g,M.length,_,rfl,hB,h,Nat.le_refl _,by have : maxLen = 9223372036854775807 := rfl; omega,by rw [List.size_toArray,flat_len],List.take_of_length_le (by show (M.flatMap rv).length ≤ _; rw [flat_len]; exact Nat.le_refl _)⟩⟩
theorem make_cap (n : Nat) (hn : n ≤ 1000) (u : World) : (Instr.makeSlice 40 (.int .i64 0) (.int .i64 ((n : Int) + 1))).run Tryz.prog u =
  .ok (.slice (some ⟨u.heap.size,0,none⟩) 0 (n + 1)) (u.alloc (.cells (zeros (n + 1)) 82)) := by
 obtain ⟨i0,hi,hz0,hz1,hz2⟩ := info_parts info
 have h := run_make (P := Tryz.prog) u 40 82 i0 zeroV Tryz.underlying40 hi hz0 .i64 .i64 0 ((n : Int) + 1) (by omega) (by omega) (by rw [hz2]; omega) (by omega)
 rw [hz1,show ((n : Int) + 1).toNat = n + 1 from by omega,made] at h
 exact h
theorem own_cap (u : World) (B c : Nat) (hB : B ≤ u.heap.size) (hc : c ≤ 1000) : Own (u.alloc (.cells (zeros c) 82)) B (.slice (some ⟨u.heap.size,0,none⟩) 0 c) [] :=
 ⟨rfl,.inr ⟨u.heap.size,c,zeros c,rfl,hB,heap_alloc_new u _,Nat.zero_le _,by have : maxLen = 9223372036854775807 := rfl; omega,by unfold zeros; rw [List.size_toArray,flat_len,List.length_replicate],rfl⟩⟩
end Go.Proofs.YtjpfpojbalepeaaGreat.Sn
namespace Go.Proofs.YtjpfpojbalepeaaGreat
open Go.RowKit
def Sp.rep (r : Sn.T) : Rp.T := ⟨r.why,r.num,r.gross⟩
def JoinE (w : World) (l : List Sn.T) (i : Int) (e : Ending) (w' : World) : Prop := ∃ v,e = .returned (.tuple #[v,.int .i64 (Sp.joinE l i)]) ∧ Sn.Own w' w.heap.size v (Sp.joinR l i) ∧ Below w.heap.size w w'
def LeaveE (w : World) (l : List Sn.T) (i : Int) (e : Ending) (w' : World) : Prop := ∃ v,e = .returned (.tuple #[v,.int .i64 (Sp.leaveE l i)]) ∧ Sn.Own w' w.heap.size v (Sp.leaveR l i) ∧ Below w.heap.size w w'
def LookE (w0 : World) (l : List Sn.T) (i q : Int) (e : Ending) (w' : World) : Prop := e = .returned (.tuple #[Rp.val (Sp.rep (Sp.lookT l i q)),.bool (Sp.lookO l i q),.int .i64 (Sp.lookE l i q)]) ∧ Below w0.heap.size w0 w'
def KeepE (w : World) (l : List Sn.T) (i q : Int) (r : Rp.T) (e : Ending) (w' : World) : Prop := ∃ v,e = .returned (.tuple #[v,.int .i64 (Sp.keepE l i q)]) ∧ Sn.Own w' w.heap.size v (Sp.keepR l i q r.why r.num r.gross) ∧ Below w.heap.size w w'
theorem Sn.short_new {i : Int} (h : Fit i) : Sn.Short (Sp.new i) := ⟨h,⟨by show (-9223372036854775808 : Int) ≤ 0; omega,by show (0 : Int) ≤ 9223372036854775807; omega⟩,⟨by show (-9223372036854775808 : Int) ≤ 0; omega,by show (0 : Int) ≤ 9223372036854775807; omega⟩,⟨by show (-9223372036854775808 : Int) ≤ 0; omega,by show (0 : Int) ≤ 9223372036854775807; omega⟩,⟨by show (-9223372036854775808 : Int) ≤ 0; omega,by show (0 : Int) ≤ 9223372036854775807; omega⟩⟩
theorem Sp.join_short {l : List Sn.T} {i : Int} (hs : ∀ r ∈ l,Sn.Short r) (hi : Fit i) : ∀ r ∈ Sp.joinR l i,Sn.Short r := by
 intro r hr
 unfold Sp.joinR at hr
 split at hr
 ·
  rcases Sp.openL_mem.1 hr with rfl | hr
  · exact Sn.short_new hi
  · exact hs r hr
 · cases hr
theorem Sp.leave_short {l : List Sn.T} {i : Int} (hs : ∀ r ∈ l,Sn.Short r) : ∀ r ∈ Sp.leaveR l i,Sn.Short r := by
 intro r hr
 unfold Sp.leaveR at hr
 split at hr
 · exact hs r (Sp.cut_mem hr)
 · cases hr
theorem Sp.set_short {l : List Sn.T} {k : Nat} {r : Sn.T} (hs : ∀ r ∈ l,Sn.Short r) (hr : Sn.Short r) : ∀ x ∈ l.set k r,Sn.Short x := by
 intro x hx
 rcases List.mem_or_eq_of_mem_set hx with hx | rfl
 · exact hs x hx
 · exact hr
theorem Sp.keep_short {l : List Sn.T} {i q : Int} {r : Rp.T} (hs : ∀ r ∈ l,Sn.Short r) (hi : Fit i) (hq : Fit q) (hr : Rp.Short r) : ∀ x ∈ Sp.keepR l i q r.why r.num r.gross,Sn.Short x := by
 intro x hx
 unfold Sp.keepR at hx
 split at hx
 · exact Sp.set_short hs ⟨hi,hq,hr.1,hr.2.1,hr.2.2⟩ x hx
 · cases hx
end Go.Proofs.YtjpfpojbalepeaaGreat
namespace Go.Proofs.YtjpfpojbalepeaaGreat
open Go.RowKit
open Mem
open Go.Sort (grow)
def AnsS (f : FuncId) (args : Array Value) (u : World) (i : Nat) (os : Array Obj) (v : Value) : Prop :=
 Calls Tryz.prog f args (grow (redrawn u i) os) fun e w'' => e = .returned v ∧ ∃ p : Regrown,w'' = grow (redrawn u p.d) p.os
theorem ses_numbers (n : Int) (w : World) : Calls Tryz.prog 100 #[.int .i64 n] w fun e w' => e = .returned (.bool (Sp.numB n)) ∧ w' = w := by
 by_cases h1 : 1 ≤ n
 ·
  by_cases h2 : n ≤ 1099511627776
  ·
   have HL := Lib.hid (Sp.num_iff.2 ⟨h1,h2⟩)
   go_enter Tryz.func100,Tryz.ntmps100
   go_wp2
   go_ret
   exact ⟨ret_bool HL.out.symm,rfl⟩
  ·
   have HL : Hid (Sp.numB n = false) := Lib.hid (Bool.eq_false_iff.2 fun k => h2 (Sp.num_iff.1 k).2)
   go_enter Tryz.func100,Tryz.ntmps100
   go_wp2
   go_ret
   exact ⟨ret_bool HL.out.symm,rfl⟩
 ·
  have HL : Hid (Sp.numB n = false) := Lib.hid (Bool.eq_false_iff.2 fun k => h1 (Sp.num_iff.1 k).1)
  go_enter Tryz.func100,Tryz.ntmps100
  go_wp2
  go_ret
  exact ⟨ret_bool HL.out.symm,rfl⟩
theorem numbers_agg (n : Int) (u : World) (i : Nat) (os : Array Obj) : AnsS 100 #[.int .i64 n] u i os (.bool (Sp.numB n)) :=
 Calls.regrown_of ((ses_numbers n _).mono fun _ _ h => ⟨h.1,by rw [h.2]; exact Below.refl _ _⟩)
theorem ses_fresh (i : Int) (w0 w : World) (hw : Below w0.heap.size w0 w) :
  Calls Tryz.prog 135 #[.int .i64 i] w fun e w' => e = .returned (Sn.val (Sp.new i)) ∧ Below w0.heap.size w0 w' := by
 have HW := Lib.hid hw
 clear hw
 go_enter Tryz.func135,Tryz.ntmps135
 go_wp2
 exact bodyPost_ret (v := Sn.val (Sp.new i)) (by simp [results,Sn.val,Sp.new,Tryz.results135,go_sem]) rfl ⟨rfl,below_box HW.out _⟩
theorem fresh_agg (i : Int) (u : World) (k : Nat) (os : Array Obj) : AnsS 135 #[.int .i64 i] u k os (.agg #[.int .i64 i,.int .i64 0,.int .i64 0,.int .i64 0,.int .i64 0]) :=
 Calls.regrown_of (ses_fresh i _ _ (Below.refl _ _))
def Sp.mid (r : Sn.T) : Bool := Sp.numB r.last || (decide (r.last = 0) && Sp.zeroB r)
theorem Sp.mid_no {r : Sn.T} (h : Sp.numB r.last = false) (k : r.last ≠ 0 ∨ r.why ≠ 0 ∨ r.num ≠ 0 ∨ r.gross ≠ 0) : Sp.mid r = false := by
 unfold Sp.mid
 rw [h,Bool.false_or]
 rw [Bool.eq_false_iff]
 intro hh
 rw [Bool.and_eq_true,decide_eq_true_iff,Sp.zero_iff] at hh
 omega
theorem Sp.mid_zero {r : Sn.T} (h0 : r.last = 0) (h1 : r.why = 0) (h2 : r.num = 0) (h3 : r.gross = 0) : Sp.mid r = true := by
 unfold Sp.mid
 rw [decide_eq_true h0,Sp.zero_iff.2 ⟨h1,h2,h3⟩,Bool.and_self,Bool.or_true]
theorem Sp.mid_num {r : Sn.T} (h : Sp.numB r.last = true) : Sp.mid r = true := by
 unfold Sp.mid
 rw [h,Bool.true_or]
def Sp.aid : Option Sn.T → Int
 | none => 0
 | some q => q.id
theorem Sp.ok_mid (p : Option Sn.T) (r : Sn.T) (h : 0 ≤ Sp.aid p) : Sp.ok p r = (decide (Sp.aid p < r.id) && Sp.mid r) := by
 have hm : Sp.mid r = true ↔ 0 ≤ r.last ∧ r.last ≤ 1099511627776 ∧ (r.last = 0 → r.why = 0 ∧ r.num = 0 ∧ r.gross = 0) := by
  unfold Sp.mid
  rw [Bool.or_eq_true,Bool.and_eq_true,decide_eq_true_iff,Sp.num_iff,Sp.zero_iff]
  omega
 rw [Bool.eq_iff_iff]
 unfold Sp.ok
 rw [Bool.and_eq_true,Bool.and_eq_true,Sp.sound_iff,hm,decide_eq_true_iff]
 cases p with
 | none =>
  unfold Sp.aid
  simp only [and_true]
  omega
 | some q =>
  unfold Sp.aid at h ⊢
  simp only at h ⊢
  rw [Sp.lt_iff]
  omega
set_option maxHeartbeats 2000000 in
theorem ses_sound (r : Sn.T) (w0 w : World) (hw : Below w0.heap.size w0 w) :
  Calls Tryz.prog 113 #[Sn.val r] w fun e w' => e = .returned (.bool (Sp.mid r)) ∧ Below w0.heap.size w0 w' := by
 have HW := Lib.hid hw
 clear hw
 obtain ⟨W,hW,hbW,hC⟩ := Sn.boxed1 w r
 have HBW := Lib.hid (bchain HW.out hbW)
 clear hbW
 unfold Sn.C at hC
 obtain ⟨a0,a1,a2,a3,a4⟩ := hC
 have k0 := cell_regrown a0
 have k1 := cell_regrown a1
 have k2 := cell_regrown a2
 have k3 := cell_regrown a3
 have k4 := cell_regrown a4
 have c1 := numbers_agg r.last
 have c2 := fresh_agg r.id
 unfold Sn.val
 cases hn : Sp.numB r.last
 ·
  rw [hn] at c1
  have HN := Lib.hid hn
  clear hn
  by_cases h1 : r.last = 0
  ·
   by_cases h2 : r.why = 0
   ·
    by_cases h3 : r.num = 0
    ·
     by_cases h4 : r.gross = 0
     ·
      have HE := Lib.hid (Sp.mid_zero h1 h2 h3 h4)
      have q1 : (r.last == 0) = true := beq_iff_eq.2 h1
      have q2 : (r.why == 0) = true := beq_iff_eq.2 h2
      have q3 : (r.num == 0) = true := beq_iff_eq.2 h3
      have q4 : (r.gross == 0) = true := beq_iff_eq.2 h4
      clear h1 h2 h3 h4
      go_enter Tryz.func113,Tryz.ntmps113
      go_wp2
      refine wp_region_quiet_below (by kernel_rfl) (by kernel_rfl) ?_
      repeat (first | go_big_quiet_step (first | (go_at_call 100; exact c1 _ _ _) | (go_at_call 135; exact c2 _ _ _)) | quiet_step (first | (go_at_call 100; exact c1 _ _ _) | (go_at_call 135; exact c2 _ _ _)))
      refine wpQuiet_nil ?_
      intro _ hw'
      obtain ⟨⟨dq,osq⟩,hw''⟩ := hw'
      subst hw''
      have HBv := Lib.hid (bchain HBW.out (below_regrown W dq osq))
      go_wp2
      go_ret
      exact ⟨ret_bool HE.out.symm,HBv.out⟩
     ·
      have HE := Lib.hid (Sp.mid_no HN.out (.inr (.inr (.inr h4))))
      have q1 : (r.last == 0) = true := beq_iff_eq.2 h1
      have q2 : (r.why == 0) = true := beq_iff_eq.2 h2
      have q3 : (r.num == 0) = true := beq_iff_eq.2 h3
      have q4 : (r.gross == 0) = false := beq_eq_false_iff_ne.2 h4
      clear h1 h2 h3 h4
      go_enter Tryz.func113,Tryz.ntmps113
      go_wp2
      refine wp_region_quiet_below (by kernel_rfl) (by kernel_rfl) ?_
      repeat (first | go_big_quiet_step (first | (go_at_call 100; exact c1 _ _ _) | (go_at_call 135; exact c2 _ _ _)) | quiet_step (first | (go_at_call 100; exact c1 _ _ _) | (go_at_call 135; exact c2 _ _ _)))
      refine wpQuiet_nil ?_
      intro _ hw'
      obtain ⟨⟨dq,osq⟩,hw''⟩ := hw'
      subst hw''
      have HBv := Lib.hid (bchain HBW.out (below_regrown W dq osq))
      go_wp2
      go_ret
      exact ⟨ret_bool HE.out.symm,HBv.out⟩
    ·
     have HE := Lib.hid (Sp.mid_no HN.out (.inr (.inr (.inl h3))))
     have q1 : (r.last == 0) = true := beq_iff_eq.2 h1
     have q2 : (r.why == 0) = true := beq_iff_eq.2 h2
     have q3 : (r.num == 0) = false := beq_eq_false_iff_ne.2 h3
     clear h1 h2 h3
     go_enter Tryz.func113,Tryz.ntmps113
     go_wp2
     refine wp_region_quiet_below (by kernel_rfl) (by kernel_rfl) ?_
     repeat (first | go_big_quiet_step (first | (go_at_call 100; exact c1 _ _ _) | (go_at_call 135; exact c2 _ _ _)) | quiet_step (first | (go_at_call 100; exact c1 _ _ _) | (go_at_call 135; exact c2 _ _ _)))
     refine wpQuiet_nil ?_
     intro _ hw'
     obtain ⟨⟨dq,osq⟩,hw''⟩ := hw'
     subst hw''
     have HBv := Lib.hid (bchain HBW.out (below_regrown W dq osq))
     go_wp2
     go_ret
     exact ⟨ret_bool HE.out.symm,HBv.out⟩
   ·
    have HE := Lib.hid (Sp.mid_no HN.out (.inr (.inl h2)))
    have q1 : (r.last == 0) = true := beq_iff_eq.2 h1
    have q2 : (r.why == 0) = false := beq_eq_false_iff_ne.2 h2
    clear h1 h2
    go_enter Tryz.func113,Tryz.ntmps113
    go_wp2
    refine wp_region_quiet_below (by kernel_rfl) (by kernel_rfl) ?_
    repeat (first | go_big_quiet_step (first | (go_at_call 100; exact c1 _ _ _) | (go_at_call 135; exact c2 _ _ _)) | quiet_step (first | (go_at_call 100; exact c1 _ _ _) | (go_at_call 135; exact c2 _ _ _)))
    refine wpQuiet_nil ?_
    intro _ hw'
    obtain ⟨⟨dq,osq⟩,hw''⟩ := hw'
    subst hw''
    have HBv := Lib.hid (bchain HBW.out (below_regrown W dq osq))
    go_wp2
    go_ret
    exact ⟨ret_bool HE.out.symm,HBv.out⟩
  ·
   have HE := Lib.hid (Sp.mid_no HN.out (.inl h1))
   have q1 : (r.last == 0) = false := beq_eq_false_iff_ne.2 h1
   clear h1
   go_enter Tryz.func113,Tryz.ntmps113
   go_wp2
   refine wp_region_quiet_below (by kernel_rfl) (by kernel_rfl) ?_
   repeat (first | go_big_quiet_step (first | (go_at_call 100; exact c1 _ _ _) | (go_at_call 135; exact c2 _ _ _)) | quiet_step (first | (go_at_call 100; exact c1 _ _ _) | (go_at_call 135; exact c2 _ _ _)))
   refine wpQuiet_nil ?_
   intro _ hw'
   obtain ⟨⟨dq,osq⟩,hw''⟩ := hw'
   subst hw''
   have HBv := Lib.hid (bchain HBW.out (below_regrown W dq osq))
   go_wp2
   go_ret
   exact ⟨ret_bool HE.out.symm,HBv.out⟩
 ·
  rw [hn] at c1
  have HE := Lib.hid (Sp.mid_num hn)
  clear hn
  go_enter Tryz.func113,Tryz.ntmps113
  go_wp2
  refine wp_region_quiet_below (by kernel_rfl) (by kernel_rfl) ?_
  repeat (first | go_big_quiet_step (first | (go_at_call 100; exact c1 _ _ _) | (go_at_call 135; exact c2 _ _ _)) | quiet_step (first | (go_at_call 100; exact c1 _ _ _) | (go_at_call 135; exact c2 _ _ _)))
  refine wpQuiet_nil ?_
  intro _ hw'
  obtain ⟨⟨dq,osq⟩,hw''⟩ := hw'
  subst hw''
  have HBv := Lib.hid (bchain HBW.out (below_regrown W dq osq))
  go_wp2
  go_ret
  exact ⟨ret_bool HE.out.symm,HBv.out⟩
set_option maxHeartbeats 2000000 in
theorem ses_index (ls : List Sn.T) (i : Int) (ao : Option Addr) (n cap : Nat) (w0 w : World) (hw : Below w0.heap.size w0 w) (hL : Sn.Ls w ao n cap ls) :
  Calls Tryz.prog 99 #[.slice ao n cap,.int .i64 i] w fun e w' => e = .returned (.int .i64 (Sp.ix i ls : Nat)) ∧ Below w0.heap.size w0 w' := by
 have HW := Lib.hid hw
 have HL := Lib.hid hL
 have HN := Lib.hid hL.len
 have hcap := hL.reach
 have hfit := hL.fits
 clear hL hw
 go_enter Tryz.func99,Tryz.ntmps99
 go_wp2_with fail
 go_loopw [5,6,9] (fun _ _ j wr => ∃ k : Nat,k ≤ n ∧ j = .int .i64 k ∧ Hid (∀ r ∈ ls.take k,r.id ≠ i) ∧ Hid (Below w.heap.size w wr)) (fun _ _ j _ => n - (intOf j).toNat)
 case atStart => exact ⟨0,by omega,rfl,Lib.hid (fun _ h => by cases h),Lib.hid (Below.refl _ _)⟩
 case round =>
  obtain ⟨k,hk,rfl,HT,HB⟩ := hrel
  by_cases hlt : k < n
  ·
   obtain ⟨b,off,rfl⟩ := HL.out.at (by omega)
   have hkl : k < ls.length := HN.out ▸ hlt
   obtain ⟨r,hr⟩ : ∃ r,ls[k] = r := ⟨_,rfl⟩
   have hrow := (HL.out.row k hkl).below HB.out
   rw [hr] at hrow
   obtain ⟨g0,g1,g2,g3,g4⟩ := hrow
   obtain ⟨W,hW,hbW,hA⟩ := Sn.boxed1 wr r
   have HBW := Lib.hid (bchain HB.out hbW)
   clear hbW
   unfold Sn.C at hA
   obtain ⟨a0,a1,a2,a3,a4⟩ := hA
   have HS := Lib.hid (List.take_succ_eq_append_getElem hkl)
   by_cases he : r.id = i
   ·
    have HF := Lib.hid (Sp.ix_at hkl HT.out (hr ▸ he))
    have qe : (r.id == i) = true := beq_iff_eq.2 he
    clear he hr
    go_wp2_with fail
    go_ret
    exact ⟨by rw [HF.out]; rfl,bchain HW.out HBW.out⟩
   ·
    have HE := Lib.hid he
    have qe : (r.id == i) = false := beq_eq_false_iff_ne.2 he
    have HR := Lib.hid hr
    clear hr he
    go_wp2_with fail
    go_roundw
    case rel =>
     refine ⟨k + 1,by omega,by go_num,Lib.hid ?_,HBW⟩
     rw [HS.out]
     intro x hx
     rcases List.mem_append.1 hx with h | h
     · exact HT.out x h
     ·
      obtain rfl := List.mem_singleton.1 h
      rw [HR.out]
      exact HE.out
    case measure => simp [intOf]; omega
  ·
   obtain rfl : k = n := by omega
   have HF : Hid (Sp.ix i ls = k) := Lib.hid (by
    have := Sp.ix_none (s := i) (l := ls) (fun r hr => HT.out r (by rw [List.take_of_length_le (by rw [← HN.out]; exact Nat.le_refl _)]; exact hr))
    rw [this,HN.out])
   go_wp2_with fail
   go_ret
   exact ⟨by rw [HF.out]; rfl,bchain HW.out HB.out⟩
end Go.Proofs.YtjpfpojbalepeaaGreat
namespace Go.Proofs.YtjpfpojbalepeaaGreat
open Go.RowKit
open Mem
open Go.Sort (grow)
set_option maxHeartbeats 2000000 in
theorem ses_right (rs : List Sn.T) (ao : Option Addr) (n cap : Nat) (w0 w : World) (hw : Below w0.heap.size w0 w) (hR : Sn.Ls w ao n cap rs) :
  Calls Tryz.prog 68 #[.slice ao n cap] w fun e w' => e = .returned (.bool (Sp.rightB rs)) ∧ Below w0.heap.size w0 w' := by
 have HW := Lib.hid hw
 have HR := Lib.hid hR
 have HN := Lib.hid hR.len
 have hcap := hR.reach
 have hfit := hR.fits
 clear hw hR
 by_cases h8 : 8 < n
 ·
  have HT := Lib.hid (Sp.right_long (l := rs) (HN.out ▸ h8))
  go_enter Tryz.func68,Tryz.ntmps68
  go_wp2
  go_ret
  exact ⟨ret_bool HT.out.symm,HW.out⟩
 ·
  have HT := Lib.hid (Sp.right_short (l := rs) (by have := HN.out; omega))
  go_enter Tryz.func68,Tryz.ntmps68
  go_wp2
  go_loopw [3,5,11] (fun a _ i wr => ∃ (k : Nat) (A : Int),k ≤ n ∧ a = .int .i64 A ∧ i = .int .i64 k ∧ Hid (A = Sp.aid (Sp.prevAt rs k) ∧ 0 ≤ A) ∧ Hid (Sp.okAll (Sp.prevAt rs k) (rs.drop k) = Sp.okAll none rs) ∧ Hid (Below w.heap.size w wr)) (fun _ _ i _ => n - (intOf i).toNat)
  case atStart => exact ⟨0,0,by omega,rfl,rfl,Lib.hid ⟨rfl,Int.le_refl _⟩,Lib.hid rfl,Lib.hid (Below.refl _ _)⟩
  case round =>
   obtain ⟨k,A,hk,rfl,rfl,HA,HK,HB⟩ := hrel
   by_cases hlt : k < n
   ·
    obtain ⟨b,off,rfl⟩ := HR.out.at (by omega)
    have hkr : k < rs.length := HN.out ▸ hlt
    obtain ⟨r,hr⟩ : ∃ r,rs[k] = r := ⟨_,rfl⟩
    have hrow := (HR.out.row k hkr).below HB.out
    have HSt := Lib.hid (Sp.okAll_at rs k hkr)
    have HPv := Lib.hid (Sp.prev_at hkr hr)
    rw [hr] at hrow HSt
    have HO := Lib.hid (Sp.ok_mid (Sp.prevAt rs k) r (by rw [← HA.out.1]; exact HA.out.2))
    rw [← HA.out.1] at HO
    obtain ⟨g0,g1,g2,g3,g4⟩ := hrow
    obtain ⟨W,hW,hbW,hA⟩ := Sn.boxed1 wr r
    have HBW := Lib.hid (bchain HB.out hbW)
    have HC := Lib.hid hA
    clear hbW hr
    unfold Sn.C at hA
    obtain ⟨a0,a1,a2,a3,a4⟩ := hA
    by_cases hle : r.id ≤ A
    ·
     have hd : decide (r.id ≤ A) = true := decide_eq_true hle
     have HD : Hid (decide (A < r.id) = false) := Lib.hid (decide_eq_false (by omega))
     clear hle
     go_wp2_with fail
     go_ret
     exact ⟨ret_bool (by rw [HT.out,← HK.out,HSt.out,HO.out,HD.out,Bool.false_and,Bool.false_and]),bchain HW.out HBW.out⟩
    ·
     have hd : decide (r.id ≤ A) = false := decide_eq_false hle
     have HD : Hid (decide (A < r.id) = true) := Lib.hid (decide_eq_true (by omega))
     have HG : Hid (0 ≤ r.id) := Lib.hid (by have := HA.out.2; omega)
     clear hle
     go_wp2_with fail
     refine (ses_sound r W _ (Below.refl _ _)).mono ?_
     rintro e w1 ⟨rfl,b1⟩
     have hA := HC.out.below b1
     have HB1 := Lib.hid (bchain HBW.out b1)
     clear a0 a1 a2 a3 a4 b1 HC
     unfold Sn.C at hA
     obtain ⟨a0,a1,a2,a3,a4⟩ := hA
     cases hm : Sp.mid r
     ·
      rw [hm] at HO
      clear hm
      go_wp2_with fail
      go_ret
      exact ⟨ret_bool (by rw [HT.out,← HK.out,HSt.out,HO.out,Bool.and_false,Bool.false_and]),bchain HW.out HB1.out⟩
     ·
      rw [hm] at HO
      clear hm
      go_wp2_with fail
      go_roundw
      case rel => exact ⟨k + 1,r.id,by omega,rfl,by go_num,Lib.hid ⟨by rw [HPv.out]; rfl,HG.out⟩,Lib.hid (by rw [← HK.out,HSt.out,HO.out,HD.out,Bool.true_and,Bool.true_and]),HB1⟩
      case measure => simp [intOf]; omega
   ·
    obtain rfl : k = n := by omega
    go_wp2_with fail
    go_ret
    exact ⟨ret_bool (by rw [HT.out,← HK.out,List.drop_eq_nil_of_le (Nat.le_of_eq HN.out.symm)]; rfl),bchain HW.out HB.out⟩
end Go.Proofs.YtjpfpojbalepeaaGreat
namespace Go.Proofs.YtjpfpojbalepeaaGreat
open Go.RowKit
open Mem
open Go.Sort (grow)
def Bl.YesE (w0 : World) (P : Prop) (e : Ending) (w' : World) : Prop := (P ∧ e = .returned (.bool true) ∨ ¬ P ∧ e = .returned (.bool false)) ∧ Below w0.heap.size w0 w'
def Bl.AttR (l : List Sn.T) (x : Int) : Prop := (1 ≤ x ∧ x ≤ 1099511627776) ∧ Sp.rightB l = true ∧ ∀ s ∈ l,s.id < x
set_option maxHeartbeats 4000000 in
theorem bil_attended (ls : List Sn.T) (x : Int) (ao : Option Addr) (n cap : Nat) (w0 w : World) (hw : Below w0.heap.size w0 w) (hL : Sn.Ls w ao n cap ls) :
  Calls Tryz.prog 30 #[.slice ao n cap,.int .i64 x] w (Bl.YesE w0 (Bl.AttR ls x)) := by
 have HW := Lib.hid hw
 have HL := Lib.hid hL
 have HN := Lib.hid hL.len
 have hcap := hL.reach
 have hfit := hL.fits
 clear hL hw
 by_cases h1 : x < 1
 ·
  have d1 : decide (x < 1) = true := decide_eq_true h1
  have HNo : Hid (¬ Bl.AttR ls x) := Lib.hid fun z => by have := z.1; omega
  clear h1
  go_enter Tryz.func30,Tryz.ntmps30
  go_wp2_with fail
  go_ret
  exact ⟨.inr ⟨HNo.out,rfl⟩,HW.out⟩
 ·
  have d1 : decide (x < 1) = false := decide_eq_false h1
  by_cases h2 : 1099511627776 < x
  ·
   have d2 : decide (1099511627776 < x) = true := decide_eq_true h2
   have HNo : Hid (¬ Bl.AttR ls x) := Lib.hid fun z => by have := z.1; omega
   clear h1 h2
   go_enter Tryz.func30,Tryz.ntmps30
   go_wp2_with fail
   go_ret
   exact ⟨.inr ⟨HNo.out,rfl⟩,HW.out⟩
  ·
   have d2 : decide (1099511627776 < x) = false := decide_eq_false h2
   have HX : Hid (1 ≤ x ∧ x ≤ 1099511627776) := Lib.hid ⟨by omega,by omega⟩
   clear h1 h2
   go_enter Tryz.func30,Tryz.ntmps30
   go_wp2_with fail
   refine (ses_right ls ao n cap w w (Below.refl _ _) HL.out).mono ?_
   rintro e w1 ⟨rfl,b1⟩
   have HB1 := Lib.hid b1
   clear b1 d1 d2
   cases hr : Sp.rightB ls
   ·
    have HNo : Hid (¬ Bl.AttR ls x) := Lib.hid fun z => by have := z.2.1; rw [hr] at this; cases this
    clear hr
    go_wp2_with fail
    go_ret
    exact ⟨.inr ⟨HNo.out,rfl⟩,bchain HW.out HB1.out⟩
   ·
    have HRt := Lib.hid hr
    clear hr
    go_wp2_with fail
    go_loopw [6,20] (fun _ j wr => ∃ k : Nat,k ≤ n ∧ j = .int .i64 k ∧ Hid (∀ s ∈ ls.take k,s.id < x) ∧ Hid (Below w.heap.size w wr)) (fun _ j _ => n - (intOf j).toNat)
    case atStart => exact ⟨0,by omega,rfl,Lib.hid (fun _ h => by cases h),HB1⟩
    case round =>
     obtain ⟨k,hk,rfl,HT,HB⟩ := hrel
     by_cases hlt : k < n
     ·
      obtain ⟨b,off,rfl⟩ := HL.out.at (by omega)
      have hkl : k < ls.length := HN.out ▸ hlt
      have HM := Lib.hid (List.getElem_mem hkl)
      have HS := Lib.hid (List.take_succ_eq_append_getElem hkl)
      have hrow := (HL.out.row k hkl).below HB.out
      obtain ⟨r,hr⟩ : ∃ r,ls[k] = r := ⟨_,rfl⟩
      rw [hr] at hrow HM HS
      clear hr
      obtain ⟨g0,g1,g2,g3,g4⟩ := hrow
      obtain ⟨W,hW,hbW,hA⟩ := Sn.boxed1 wr r
      have HBW := Lib.hid (bchain HB.out hbW)
      clear hbW
      unfold Sn.C at hA
      obtain ⟨a0,a1,a2,a3,a4⟩ := hA
      by_cases he : x ≤ r.id
      ·
       have q : decide (x ≤ r.id) = true := decide_eq_true he
       have HNo : Hid (¬ Bl.AttR ls x) := Lib.hid fun z => by have := z.2.2 r HM.out; omega
       clear he
       go_wp2_with fail
       go_ret
       exact ⟨.inr ⟨HNo.out,rfl⟩,bchain HW.out HBW.out⟩
      ·
       have q : decide (x ≤ r.id) = false := decide_eq_false he
       have HId : Hid (r.id < x) := Lib.hid (by omega)
       clear he
       go_wp2_with fail
       go_roundw
       case rel =>
        refine ⟨k + 1,by omega,by go_num,Lib.hid ?_,HBW⟩
        rw [HS.out]
        intro y hy
        rcases List.mem_append.1 hy with h | h
        · exact HT.out y h
        ·
         rw [List.mem_singleton.1 h]
         exact HId.out
       case measure => simp [intOf]; omega
     ·
      obtain rfl : k = n := by omega
      have HYes : Hid (Bl.AttR ls x) := Lib.hid ⟨HX.out,HRt.out,by
       have h := HT.out
       rw [List.take_of_length_le (by rw [HN.out]; exact Nat.le_refl _)] at h
       exact h⟩
      go_wp2_with fail
      go_ret
      exact ⟨.inl ⟨HYes.out,rfl⟩,bchain HW.out HB.out⟩
set_option maxHeartbeats 4000000 in
theorem bil_numbered (ps : List Bl.Ps) (rs : List Pd.T) (os : List Sr.T) (ao bo : Option Addr) (n ca m cb : Nat) (w0 w : World) (hw : Below w0.heap.size w0 w) (hL : Pd.Ls w ao n ca rs) (hE : Bl.Each w rs ps) (hO : Sr.Ls w bo m cb os) (hR : Se.rightB os = true) (hn : n ≤ 1000) :
  Calls Tryz.prog 31 #[.slice ao n ca,.slice bo m cb] w (Bl.YesE w0 (Bl.NumR ps os)) := by
 have HW := Lib.hid hw
 have HL := Lib.hid hL
 have HN : Hid (n = ps.length) := Lib.hid (by rw [hL.len,hE.len])
 have HE := Lib.hid hE
 have HO := Lib.hid hO
 have HM := Lib.hid hO.len
 have HSr := Lib.hid ((Se.right_iff _).1 hR)
 have hcap := hO.reach
 have hfit := hO.fits
 have hm8 : m ≤ 8 := by have := hO.len; have := ((Se.right_iff _).1 hR).1; omega
 clear hL hw hE hO hR
 go_enter Tryz.func31,Tryz.ntmps31
 go_wp2_with fail
 go_loopw [5,7,8,9,12] (fun a _ _ _ j wr => ∃ k t : Nat,k ≤ m ∧ t ≤ k * 1000 ∧ j = .int .i64 k ∧ a = .int .i64 t ∧ Hid ((∀ r ∈ os.take k,Bl.CntOk r.name ps ∧ (Bl.cnt r.name ps : Int) = r.next - 1) ∧ Bl.cntAll ps (os.take k) = t) ∧ Hid (Below w.heap.size w wr)) (fun _ _ _ _ j _ => m - (intOf j).toNat)
 case atStart => exact ⟨0,0,by omega,by omega,rfl,rfl,Lib.hid ⟨fun _ h => (by cases h),rfl⟩,Lib.hid (Below.refl _ _)⟩
 case round =>
  obtain ⟨k,t,hk,htk,rfl,rfl,HT,HB⟩ := hrel
  by_cases hlt : k < m
  ·
   obtain ⟨b,off,rfl⟩ := HO.out.at (by omega)
   have hkl : k < os.length := HM.out ▸ hlt
   have HMe := Lib.hid (List.getElem_mem hkl)
   have HS := Lib.hid (List.take_succ_eq_append_getElem hkl)
   have HCt := Lib.hid (Bl.cntAll_take ps os k hkl)
   have hrow := (HO.out.row k hkl).below HB.out
   obtain ⟨r,hr⟩ : ∃ r,os[k] = r := ⟨_,rfl⟩
   rw [hr] at hrow HMe HS HCt
   clear hr
   obtain ⟨g0,g1,g2,g3⟩ := hrow
   obtain ⟨W,hW,hbW,hA⟩ := Sr.boxed1 wr r
   have HBW := Lib.hid (bchain HB.out hbW)
   have HCW := Lib.hid hA
   clear hbW
   unfold Sr.C at hA
   obtain ⟨a0,a1,a2,a3⟩ := hA
   have hso := Se.sound_iff.1 (HSr.out.2.1 r HMe.out)
   have hli := Se.lim_iff.1 hso.2.1
   have hb1 : -9223372036854775808 ≤ r.next - 1 := by have := hso.2.2.1; omega
   have hb2 : r.next - 1 ≤ 9223372036854775807 := by have := hso.2.2.2; omega
   clear hso hli
   go_wp2_with fail
   clear hW
   refine (bil_count ps rs r.name ao n ca W W (Below.refl _ _) (HL.out.below HBW.out) (HE.out.below HBW.out)).mono ?_
   rintro e w2 ⟨hcase,b2⟩
   have HB2 := Lib.hid (bchain HBW.out b2)
   have hA2 := HCW.out.below b2
   unfold Sr.C at hA2
   clear a0 a1 a2 a3 g0 g1 g2 g3
   obtain ⟨a0,a1,a2,a3⟩ := hA2
   have hcl := Bl.cnt_len r.name ps
   have HCl : Hid (Bl.cnt r.name ps ≤ n) := Lib.hid (by rw [HN.out]; exact hcl)
   clear b2 hcl
   rcases hcase with ⟨hok,rfl⟩ | ⟨hno,rfl⟩
   ·
    have HOk := Lib.hid hok
    clear hok
    obtain ⟨q,hq⟩ : ∃ q,Bl.cnt r.name ps = q := ⟨_,rfl⟩
    have HQ := Lib.hid hq
    rw [hq] at HCl HCt ⊢
    clear hq
    have hql := HCl.out
    have hb3 : k * 1000 ≤ 7000 := by omega
    by_cases he : (q : Int) = r.next - 1
    ·
     have qe : ((q : Int) == r.next - 1) = true := beq_iff_eq.2 he
     have HEq := Lib.hid he
     clear he
     go_wp2_with fail
     go_roundw
     case rel =>
      refine ⟨k + 1,t + q,by omega,by omega,by go_num,by go_num,Lib.hid ⟨?_,by rw [HCt.out,HT.out.2]⟩,HB2⟩
      rw [HS.out]
      intro y hy
      rcases List.mem_append.1 hy with h | h
      · exact HT.out.1 y h
      ·
       rw [List.mem_singleton.1 h]
       exact ⟨HOk.out,by rw [HQ.out]; exact HEq.out⟩
     case measure => simp [intOf]; omega
    ·
     have qe : ((q : Int) == r.next - 1) = false := beq_eq_false_iff_ne.2 he
     have HNo : Hid (¬ Bl.NumR ps os) := Lib.hid fun z => he (by rw [← HQ.out]; exact (z.each r HMe.out).2)
     clear he
     go_wp2_with fail
     go_ret
     exact ⟨.inr ⟨HNo.out,rfl⟩,bchain HW.out HB2.out⟩
   ·
    have HNo : Hid (¬ Bl.NumR ps os) := Lib.hid fun z => hno (z.each r HMe.out).1
    clear hno
    go_wp2_with fail
    go_ret
    exact ⟨.inr ⟨HNo.out,rfl⟩,bchain HW.out HB2.out⟩
  ·
   obtain rfl : k = m := by omega
   have HA : Hid ((∀ r ∈ os,Bl.CntOk r.name ps ∧ (Bl.cnt r.name ps : Int) = r.next - 1) ∧ Bl.cntAll ps os = t) := Lib.hid (by
    have h := HT.out
    rw [List.take_of_length_le (by rw [HM.out]; exact Nat.le_refl _)] at h
    exact h)
   by_cases he : t = n
   ·
    have qe : ((t : Int) == (n : Int)) = true := beq_iff_eq.2 (by omega)
    have HYes : Hid (Bl.NumR ps os) := Lib.hid ⟨HA.out.1,by rw [HA.out.2,he,HN.out]⟩
    clear he
    go_wp2_with fail
    go_ret
    exact ⟨.inl ⟨HYes.out,rfl⟩,bchain HW.out HB.out⟩
   ·
    have qe : ((t : Int) == (n : Int)) = false := beq_eq_false_iff_ne.2 (by omega)
    have HNo : Hid (¬ Bl.NumR ps os) := Lib.hid fun z => he (by rw [← HA.out.2,z.all,HN.out])
    clear he
    go_wp2_with fail
    go_ret
    exact ⟨.inr ⟨HNo.out,rfl⟩,bchain HW.out HB.out⟩
end Go.Proofs.YtjpfpojbalepeaaGreat
namespace Go.Proofs.YtjpfpojbalepeaaGreat.Ba
open Go.RowKit
open Mem
def Block (w : World) (g : Nat) (ts : List T) : Prop := w.heap[g]? = some (.cells (ts.flatMap rv).toArray 94 (0,0))
theorem Block.row {w : World} {g : Nat} {ts : List T} (h : Block w g ts) (k : Nat) (hk : k < ts.length) : At w g (k * 2) ts[k] := by
 have hcell : ∀ p,p < 2 → w.cell? ⟨g,k * 2 + p,none⟩ = (rv ts[k])[p]? := by
  intro p hp
  rw [cell_of_row w g _ _ _ _ h,← flat_at ts k p hk hp]
  simp
 exact ⟨hcell 0 (by omega),hcell 1 (by omega)⟩
theorem Block.ls {w : World} {g : Nat} {ts zs : List T} (h : Block w g (ts ++ zs)) (n cap : Nat) (hn : n = ts.length) (hc : n ≤ cap) (hm : cap ≤ 9223372036854775807) (hs : ∀ r ∈ ts,Short r) : Ls w (some ⟨g,0,none⟩) n cap ts := by
 refine ⟨hn,hc,hm,(fun k => by cases k),.inr ⟨g,0,rfl,fun k hk => ?_⟩,hs⟩
 have hr := h.row k (by rw [List.length_append]; omega)
 rw [List.getElem_append_left hk] at hr
 rw [Nat.zero_add]
 exact hr
def zeros (n : Nat) : Array Value := ((List.replicate n zero).flatMap rv).toArray
theorem sizeZ : (Tryz.prog.info? 94).map (·.size) = some 2 := by kernel_rfl
theorem made (n : Nat) : madeCells zeroV.cells (n * 2) = zeros n := by
 apply Array.ext_getElem?
 intro j
 by_cases hj : j < n * 2
 ·
  obtain ⟨k,p,rfl,hp⟩ : ∃ k p,j = k * 2 + p ∧ p < 2 := ⟨j / 2,j % 2,by omega,by omega⟩
  have hk : k < n := by omega
  have hz : (zeros n)[k * 2 + p]? = (rv zero)[p]? := by
   unfold zeros
   rw [List.getElem?_toArray,flat_at (List.replicate n zero) k p (by simpa using hk) hp,List.getElem_replicate]
  rw [hz]
  have e : (k * 2 + p) % 2 = p := by omega
  have hp' : p = 0 ∨ p = 1 := by omega
  unfold madeCells
  rw [Array.getElem?_map,Array.getElem?_range,if_pos hj]
  simp only [Option.map_some]
  rw [show zeroV.cells.size = 2 from rfl,e]
  rcases hp' with rfl | rfl <;> rfl
 ·
  rw [Array.getElem?_eq_none (by rw [size_madeCells]; omega),Array.getElem?_eq_none]
  unfold zeros
  rw [List.size_toArray,flat_len,List.length_replicate]
  omega
theorem make (n : Nat) (hn : n ≤ 100000) (u : World) : (Instr.makeSlice 39 (.int .i64 (n : Int)) (.int .i64 (n : Int))).run Tryz.prog u =
  .ok (.slice (some ⟨u.heap.size,0,none⟩) n n) (u.alloc (.cells (zeros n) 94)) := by
 obtain ⟨i0,hi,hz0,hz1,hz2⟩ := info_parts info
 have h := run_make (P := Tryz.prog) u 39 94 i0 zeroV Tryz.underlying39 hi hz0 .i64 .i64 (n : Int) (n : Int) (by omega) (Int.le_refl _) (by rw [hz2]; omega) (by omega)
 rw [hz1,Int.toNat_natCast,made] at h
 exact h
theorem block_made (u : World) (n : Nat) : Block (u.alloc (.cells (zeros n) 94)) u.heap.size (List.replicate n zero) := heap_alloc_new u _
theorem copy (u : World) (g : Nat) (ts : List T) (dCap : Nat) (ao : Option Addr) (n cap : Nat) (rs : List T) (hb : Block u g (List.replicate n zero ++ ts)) (hn : n = rs.length) (hs : Seg u ao rs) :
  ∃ u',(Builtin.copy_ #[39,39] 3 #[.slice (some ⟨g,0,none⟩) (n + ts.length) dCap,.slice ao n cap]).run Tryz.prog u = .ok (goInt n) u' ∧ Block u' g (rs ++ ts) ∧ (∀ B w0,Below B w0 u → B ≤ g → Below B w0 u') ∧ u'.heap.size = u.heap.size := by
 obtain ⟨i0,hi,hiK⟩ := Option.map_eq_some_iff.1 sizeZ
 have hmin : Nat.min n (n + ts.length) = n := Nat.min_eq_left (by omega)
 rcases hs with e | ⟨b,off,rfl,hc⟩
 ·
  subst e
  obtain rfl : n = 0 := hn
  refine ⟨u,?_,by simpa using hb,fun _ _ h _ => h,rfl⟩
  have hl : ∀ (x : Addr),(loadCells x 0).run Tryz.prog u = .ok #[] u := fun x => by simpa using run_loadCells_list (P := Tryz.prog) u x [] (by simp)
  cases ao <;> simp [Builtin.copy_,run_underlying Tryz.underlying39,Builtin.lenOf,Builtin.firstCells,sizeOf,typeInfo,hi,storeCells,hl]
 ·
  have hl := run_loadCells_list (P := Tryz.prog) u ⟨b,off,none⟩ (rs.flatMap rv) (fun j v hv => news_of hc j v hv)
  have hst := run_storeCells_at Tryz.prog g 0 94 (rs.flatMap rv) 0 _ u hb (by rw [List.size_toArray,flat_len,flat_len,List.length_append,List.length_replicate]; omega) (one_cell rs)
  have hlen : (rs.flatMap rv).length = n * 2 := by rw [flat_len,hn]
  have e : (((List.replicate n zero ++ ts).flatMap rv).toArray.toList.take (0 + 0) ++ rs.flatMap rv ++ ((List.replicate n zero ++ ts).flatMap rv).toArray.toList.drop (0 + 0 + (rs.flatMap rv).length)) = (rs ++ ts).flatMap rv := by
   rw [List.toList_toArray,List.take_zero,List.nil_append,Nat.zero_add,hlen,List.flatMap_append,List.flatMap_append,List.drop_left' (by rw [flat_len,List.length_replicate])]
  rw [e] at hst
  refine ⟨u.setRow g ((rs ++ ts).flatMap rv).toArray,?_,setRow_heap u g _ _ 94 _ hb,fun B w0 h hB => below_setRow h hB _,by simp [World.setRow]⟩
  rw [hlen] at hl
  simp [Builtin.copy_,run_underlying Tryz.underlying39,Builtin.lenOf,Builtin.firstCells,sizeOf,typeInfo,hi,hiK,hmin,hl,hst]
theorem set_right {a : T} (X : List Value) (k p : Nat) (v : Value) : (rv a ++ X).set ((k + 1) * 2 + p) v = rv a ++ X.set (k * 2 + p) v := by
 rw [List.set_append_right _ _ (by rw [rv_len]; omega),rv_len,show (k + 1) * 2 + p - 2 = k * 2 + p by omega]
theorem flat_set : ∀ (ts : List T) (k : Nat) (r : T),k < ts.length → (ts.set k r).flatMap rv = (((ts.flatMap rv).set (k * 2) (.string r.acct)).set (k * 2 + 1) (.int .i64 r.amt))
 | a :: l,0,r,_ => rfl
 | a :: l,k + 1,r,h => by
  have ih := flat_set l k r (by simpa using h)
  have e0 := fun (X : List Value) (v : Value) => set_right (a := a) X k 0 v
  simp only [Nat.add_zero] at e0
  rw [List.set_cons_succ,List.flatMap_cons,ih,List.flatMap_cons,e0,set_right]
theorem below_store {B g : Nat} {w0 w : World} (h : Below B w0 w) (hg : B ≤ g) (k : Nat) (x0 x1 : Value) :
  Below B w0 ((w.setCell ⟨g,k * 2,none⟩ x0).setCell ⟨g,k * 2 + 1,none⟩ x1) :=
 ((h.setCell hg x0).setCell hg x1)
theorem own_store {w : World} {B g n cap : Nat} {M : List T} (h : Own w B (.slice (some ⟨g,0,none⟩) n cap) M) (k : Nat) (hk : k < M.length) (r : T) :
  Own ((w.setCell ⟨g,k * 2,none⟩ (.string r.acct)).setCell ⟨g,k * 2 + 1,none⟩ (.int .i64 r.amt)) B (.slice (some ⟨g,0,none⟩) n cap) (M.set k r) := by
 rcases h.2 with ⟨h',_⟩ | ⟨g',cap',cur,h',hb,hg,hnc,hcm,hcs,htake⟩
 · cases h'
 ·
  simp only [Value.slice.injEq,Option.some.injEq,Addr.mk.injEq,and_true] at h'
  obtain ⟨e1,e2,e3⟩ := h'
  subst e1 e3
  have h1 := heap_setCell_same _ g (k * 2) _ _ (.string r.acct) hg
  have h2 := heap_setCell_same _ g (k * 2 + 1) _ _ (.int .i64 r.amt) h1
  refine ⟨by rw [flat_len],.inr ⟨g,cap,_,by rw [List.length_set,e2],hb,h2,by rw [List.length_set]; exact hnc,hcm,by simpa using hcs,?_⟩⟩
  rw [List.length_set,flat_set M k r hk]
  simp only [Array.toList_setIfInBounds]
  rw [← htake]
  simp only [List.take_set]
theorem own_at {w : World} {B g n cap : Nat} {M : List T} (h : Own w B (.slice (some ⟨g,0,none⟩) n cap) M) (k : Nat) (hk : k < M.length) : At w g (k * 2) M[k] ∧ (∀ o,w.frozen? ⟨g,o,none⟩ = false) ∧ B ≤ g := by
 rcases h.2 with ⟨h',_⟩ | ⟨g',cap',cur,h',hb,hg,hnc,hcm,hcs,htake⟩
 · cases h'
 ·
  simp only [Value.slice.injEq,Option.some.injEq,Addr.mk.injEq,and_true] at h'
  obtain ⟨e1,e2,e3⟩ := h'
  subst e1 e3
  have hcell : ∀ p,p < 2 → w.cell? ⟨g,k * 2 + p,none⟩ = (rv M[k])[p]? := by
   intro p hp
   rw [cell_of_row w g _ _ _ _ hg,← flat_at M k p hk hp,← htake,List.getElem?_take_of_lt (by omega)]
   simp
  exact ⟨⟨hcell 0 (by omega),hcell 1 (by omega)⟩,fun o => frozen_of_row w g o _ _ hg,hb⟩
theorem flat_put (r : T) (p : Nat) (x : Value) (hp : p < 2) : ∀ (M : List T) (k : Nat) (hk : k < M.length),rv r = (rv M[k]).set p x → (M.set k r).flatMap rv = (M.flatMap rv).set (k * 2 + p) x
 | a :: l,0,_,h => by
  have h' : rv r = (rv a).set p x := h
  rw [List.set_cons_zero,List.flatMap_cons,List.flatMap_cons,Nat.zero_mul,Nat.zero_add,List.set_append_left _ _ (by rw [rv_len]; exact hp),h']
 | a :: l,k + 1,hk,h => by
  have ih := flat_put r p x hp l k (by simpa using hk) (by simpa using h)
  rw [List.set_cons_succ,List.flatMap_cons,List.flatMap_cons,List.set_append_right _ _ (by rw [rv_len]; omega),rv_len,show (k + 1) * 2 + p - 2 = k * 2 + p by omega,ih]
theorem own_put {w : World} {B g n cap : Nat} {M : List T} (h : Own w B (.slice (some ⟨g,0,none⟩) n cap) M) (k p : Nat) (hk : k < M.length) (hp : p < 2) (x : Value) (r : T) (hr : rv r = (rv M[k]).set p x) :
  Own (w.setCell ⟨g,k * 2 + p,none⟩ x) B (.slice (some ⟨g,0,none⟩) n cap) (M.set k r) := by
 rcases h.2 with ⟨h',_⟩ | ⟨g',cap',cur,h',hb,hg,hnc,hcm,hcs,htake⟩
 · cases h'
 ·
  simp only [Value.slice.injEq,Option.some.injEq,Addr.mk.injEq,and_true] at h'
  obtain ⟨e1,e2,e3⟩ := h'
  subst e1 e3
  have h1 := heap_setCell_same _ g (k * 2 + p) _ _ x hg
  refine ⟨by rw [flat_len],.inr ⟨g,cap,_,by rw [List.length_set,e2],hb,h1,by rw [List.length_set]; exact hnc,hcm,by simpa using hcs,?_⟩⟩
  rw [List.length_set,flat_put r p x hp M k hk hr]
  simp only [Array.toList_setIfInBounds]
  rw [← htake]
  simp only [List.take_set]
theorem own_of_block {w : World} {B g n : Nat} {M : List T} (h : Block w g M) (hB : B ≤ g) (hn : n = M.length) (hm : n ≤ 100000) : Own w B (.slice (some ⟨g,0,none⟩) n n) M := by
 subst hn
 exact ⟨by rw [flat_len],.inr ⟨g,M.length,_,rfl,hB,h,Nat.le_refl _,by have : maxLen = 9223372036854775807 := rfl; omega,by rw [List.size_toArray,flat_len],List.take_of_length_le (by show (M.flatMap rv).length ≤ _; rw [flat_len]; exact Nat.le_refl _)⟩⟩
end Go.Proofs.YtjpfpojbalepeaaGreat.Ba
namespace Go.Proofs.YtjpfpojbalepeaaGreat
open Go.RowKit
open Mem
open Go.Sort (grow)
theorem add_two (x y c : Int) (hx : 0 ≤ x) (hy : 0 ≤ y) (hc0 : 0 ≤ c) (hc : c ≤ 1) (w : World) : (callFunc 53 #[.int .u64 x,.int .u64 y,.int .u64 c]).run Tryz.prog w = .ok (.value (.tuple #[.int .u64 ((x + y + c) % 18446744073709551616),.int .u64 ((x + y + c) / 18446744073709551616)])) w := by
 rw [run_callFunc_extern Tryz.func53 (by kernel_rfl) (by kernel_rfl) (by kernel_rfl) (e := add64Entry) (by kernel_rfl),run_add64 x y c hx hy hc0 hc]
 rfl
structure Tw2 (hi lo s : Int) : Prop where
 h0 : 0 ≤ hi
 h1 : hi < 18446744073709551616
 l0 : 0 ≤ lo
 l1 : lo < 18446744073709551616
 sum : ∃ m : Int,hi * 18446744073709551616 + lo = s + m * 340282366920938463463374607431768211456
end Go.Proofs.YtjpfpojbalepeaaGreat
namespace Go.Proofs.YtjpfpojbalepeaaGreat
open Go.RowKit
theorem drop_ne (s : ByteArray) (pos : Nat) (h : pos < s.size) : (txt s).drop pos ≠ [] := by
 intro e
 have := congrArg List.length e
 rw [List.length_drop,txt_len,List.length_nil] at this
 omega
theorem drop_end (s : ByteArray) (pos : Nat) (h : ¬ pos < s.size) : (txt s).drop pos = [] :=
 List.drop_eq_nil_of_le (by rw [txt_len]; omega)
theorem dec_at (s : ByteArray) (pos : Nat) : Lib.decodeL ((txt s).drop pos) = Utf8.decode s pos := Lib.decodeL_drop s pos
theorem dec_pos (s : ByteArray) (pos : Nat) : 1 ≤ (Utf8.decode s pos).2 := Lib.width_pos s pos
theorem dec_le (s : ByteArray) (pos : Nat) (h : pos < s.size) : pos + (Utf8.decode s pos).2 ≤ s.size := by
 have := Rn.dle _ (drop_ne s pos h)
 rw [dec_at,List.length_drop,txt_len] at this
 omega
theorem runes_at (s : ByteArray) (pos : Nat) (h : pos < s.size) : Rn.runes ((txt s).drop pos) = (Utf8.decode s pos).1 :: Rn.runes ((txt s).drop (pos + (Utf8.decode s pos).2)) := by
 rw [Rn.runes_step _ (drop_ne s pos h),dec_at,List.drop_drop]
theorem runes_end (s : ByteArray) (pos : Nat) (h : ¬ pos < s.size) : Rn.runes ((txt s).drop pos) = [] := by rw [drop_end s pos h]; rfl
theorem below_iter (w : World) (s : ByteArray) (pos : Nat) : Below w.heap.size w (w.iter s pos) := (Below.refl _ _).alloc (Nat.le_refl _) _
theorem name_long (s : ByteArray) (h : s.toList = [] ∨ 24 < s.size) : Rn.name (txt s) = false := by
 unfold Rn.name
 rcases h with h | h
 · rw [← tl,h]; rfl
 ·
  rw [show decide ((txt s).length ≤ 24) = false from decide_eq_false (by rw [txt_len]; omega)]
  simp
theorem name_short (s : ByteArray) (h : s.toList ≠ []) (h2 : s.size ≤ 24) : Rn.name (txt s) = Rn.nameOk true (Rn.runes (txt s)) := by
 unfold Rn.name
 rw [show decide ((txt s).length ≤ 24) = true from decide_eq_true (by rw [txt_len]; omega)]
 rw [tl] at h
 cases e : txt s with
 | nil => exact absurd e h
 | cons _ _ => rfl
end Go.Proofs.YtjpfpojbalepeaaGreat
namespace Go.Proofs.YtjpfpojbalepeaaGreat
open Go.RowKit
theorem sign_within (r a b : Int) (w : World) :
  Calls Tryz.prog 171 #[.int .i32 r,.int .i32 a,.int .i32 b] w fun e w' => e = .returned (.bool (decide (a ≤ r ∧ r ≤ b))) ∧ w' = w := by
 go_enter Tryz.func171,Tryz.ntmps171
 by_cases h1 : a ≤ r
 ·
  go_wp2
  go_ret
  exact ⟨ret_bool (by simp [h1]),rfl⟩
 ·
  go_wp2
  go_ret
  refine ⟨ret_bool ?_,rfl⟩
  rw [Bool.eq_iff_iff]
  simp
  omega
theorem digit_any (r : Int) (w : World) :
  Calls Tryz.prog 172 #[.int .i32 r] w fun e w' => e = .returned (.bool (Rn.digit r)) ∧ w' = w := by
 go_enter Tryz.func172,Tryz.ntmps172
 go_wp2_with fail
 refine (sign_within _ _ _ _).mono ?_
 rintro e _ ⟨rfl,rfl⟩
 go_wp2
 go_ret
 exact ⟨ret_bool (by simp [Rn.digit]),rfl⟩
theorem inner_any (r : Int) (w : World) :
  Calls Tryz.prog 149 #[.int .i32 r] w fun e w' => e = .returned (.bool (Rn.inner r)) ∧ w' = w := by
 go_enter Tryz.func149,Tryz.ntmps149
 go_wp2_with fail
 refine (digit_any _ _).mono ?_
 rintro e _ ⟨rfl,rfl⟩
 cases hd : Rn.digit r
 ·
  by_cases h1 : r = 45
  ·
   subst h1
   go_wp2
   go_ret
   exact ⟨rfl,rfl⟩
  ·
   by_cases h2 : r = 95
   ·
    subst h2
    go_wp2
    go_ret
    exact ⟨rfl,rfl⟩
   ·
    go_wp2
    go_ret
    refine ⟨ret_bool ?_,rfl⟩
    rw [Bool.eq_iff_iff]
    simp [Rn.inner,hd,h1,h2]
 ·
  go_wp2
  go_ret
  exact ⟨ret_bool (by simp [Rn.inner,hd]),rfl⟩
theorem letter_any (r : Int) (w : World) :
  Calls Tryz.prog 148 #[.int .i32 r] w fun e w' => e = .returned (.bool (Rn.letter r)) ∧ w' = w := by
 go_enter Tryz.func148,Tryz.ntmps148
 go_wp2_with fail
 refine (sign_within _ _ _ _).mono ?_
 rintro e _ ⟨rfl,rfl⟩
 by_cases h1 : 97 ≤ r ∧ r ≤ 122
 ·
  rw [show decide (97 ≤ r ∧ r ≤ 122) = true from decide_eq_true h1]
  go_wp2
  go_ret
  exact ⟨ret_bool (by simp [Rn.letter,h1]),rfl⟩
 ·
  rw [show decide (97 ≤ r ∧ r ≤ 122) = false from decide_eq_false h1]
  go_wp2_with fail
  refine (sign_within _ _ _ _).mono ?_
  rintro e _ ⟨rfl,rfl⟩
  by_cases h2 : 65 ≤ r ∧ r ≤ 90
  ·
   rw [show decide (65 ≤ r ∧ r ≤ 90) = true from decide_eq_true h2]
   go_wp2
   go_ret
   exact ⟨ret_bool (by simp [Rn.letter,h2]),rfl⟩
  ·
   rw [show decide (65 ≤ r ∧ r ≤ 90) = false from decide_eq_false h2]
   go_wp2_with fail
   refine (sign_within _ _ _ _).mono ?_
   rintro e _ ⟨rfl,rfl⟩
   by_cases h3 : 192 ≤ r ∧ r ≤ 591
   ·
    rw [show decide (192 ≤ r ∧ r ≤ 591) = true from decide_eq_true h3]
    by_cases h4 : r = 215
    ·
     subst h4
     go_wp2
     go_ret
     exact ⟨rfl,rfl⟩
    ·
     go_wp2
     go_ret
     refine ⟨ret_bool ?_,rfl⟩
     rw [Bool.eq_iff_iff]
     simp [Rn.letter]
     omega
   ·
    rw [show decide (192 ≤ r ∧ r ≤ 591) = false from decide_eq_false h3]
    go_wp2
    go_ret
    refine ⟨ret_bool ?_,rfl⟩
    symm
    simp only [Rn.letter,Bool.or_eq_false_iff,decide_eq_false_iff_not]
    omega
set_option maxHeartbeats 1000000 in
theorem name_any (s : ByteArray) (w : World) (hs : s.size ≤ 140737488355328) :
  Calls Tryz.prog 110 #[.string s] w fun e w' => e = .returned (.bool (Rn.name (txt s))) ∧ Below w.heap.size w w' := by
 by_cases hn : s.toList = []
 ·
  have HN : Hid (Rn.name (txt s) = false) := name_long s (.inl hn)
  go_enter Tryz.func110,Tryz.ntmps110
  go_wp2
  go_ret
  exact ⟨ret_bool HN.out.symm,Below.refl _ _⟩
 have hn2 : s.toList.isEmpty = false := by cases e : s.toList with | nil => exact absurd e hn | cons _ _ => rfl
 by_cases h24 : 24 < s.size
 ·
  have HN : Hid (Rn.name (txt s) = false) := name_long s (.inr h24)
  go_enter Tryz.func110,Tryz.ntmps110
  go_wp2
  go_ret
  exact ⟨ret_bool HN.out.symm,Below.refl _ _⟩
 have HN : Hid (Rn.name (txt s) = Rn.nameOk true (Rn.runes (txt s))) := name_short s hn (by omega)
 go_enter Tryz.func110,Tryz.ntmps110
 go_wp2
 clear hn hn2
 go_loopw [3,4] (fun _ _ w' => ∃ (pos : Nat),w' = w.iter s pos ∧ Hid (Rn.nameOk (decide (pos = 0)) (Rn.runes ((txt s).drop pos)) = Rn.nameOk true (Rn.runes (txt s))) ∧ pos ≤ s.size) (fun _ _ w' => s.size - w'.iterPos w.heap.size)
 case atStart => exact ⟨0,rfl,by show _ = _; simp,by omega⟩
 case round =>
  obtain ⟨pos,rfl,HC,hb⟩ := hrel
  by_cases hp : pos < s.size
  ·
   have hnx : ∀ ty,(Instr.next (.pointer (some ⟨w.heap.size,0,none⟩)) true ty).run Tryz.prog (w.iter s pos) = _ := fun ty => run_next_any w s pos ty hp
   have hwd := dec_pos s pos
   have hle := dec_le s pos hp
   have HS : Hid (Rn.nameOk (decide (pos = 0)) (Rn.runes ((txt s).drop pos)) = ((Rn.letter ((Utf8.decode s pos).1 : Int) || (!decide (pos = 0) && Rn.inner ((Utf8.decode s pos).1 : Int))) && Rn.nameOk (decide (pos + (Utf8.decode s pos).2 = 0)) (Rn.runes ((txt s).drop (pos + (Utf8.decode s pos).2))))) := by
    show _ = _
    rw [runes_at s pos hp,Rn.nameOk,show decide (pos + (Utf8.decode s pos).2 = 0) = false from decide_eq_false (by omega)]
   go_wp2_with fail
   refine (letter_any _ _).mono ?_
   rintro e _ ⟨rfl,rfl⟩
   cases hL : Rn.letter ((Utf8.decode s pos).1 : Int)
   ·
    by_cases h0 : pos = 0
    ·
     go_wp2
     go_ret
     refine ⟨ret_bool ?_,below_iter w s _⟩
     rw [HN.out,← HC.out,HS.out,hL]
     simp [h0]
    ·
     go_wp2_with fail
     refine (inner_any _ _).mono ?_
     rintro e _ ⟨rfl,rfl⟩
     cases hI : Rn.inner ((Utf8.decode s pos).1 : Int)
     ·
      go_wp2
      go_ret
      refine ⟨ret_bool ?_,below_iter w s _⟩
      rw [HN.out,← HC.out,HS.out,hL,hI]
      simp
     ·
      go_wp2
      go_roundw
      case rel =>
       refine ⟨pos + (Utf8.decode s pos).2,rfl,?_,by omega⟩
       show _ = _
       rw [← HC.out,HS.out,hL,hI]
       simp [h0]
      case measure =>
       simp
       omega
   ·
    go_wp2
    go_roundw
    case rel =>
     refine ⟨pos + (Utf8.decode s pos).2,rfl,?_,by omega⟩
     show _ = _
     rw [← HC.out,HS.out,hL]
     simp
    case measure =>
     simp
     omega
  ·
   have hnx : ∀ ty,(Instr.next (.pointer (some ⟨w.heap.size,0,none⟩)) true ty).run Tryz.prog (w.iter s pos) = _ := fun ty => run_next_end w s pos ty hp
   go_wp2
   go_ret
   refine ⟨ret_bool ?_,below_iter w s pos⟩
   rw [HN.out,← HC.out,runes_end s pos hp]
   rfl
theorem name_gen (s : ByteArray) (w0 w : World) (hb : Below w0.heap.size w0 w) (hs : s.size ≤ 140737488355328) :
  Calls Tryz.prog 110 #[.string s] w fun e w' => e = .returned (.bool (Rn.name (txt s))) ∧ Below w0.heap.size w0 w' :=
 (name_any s w hs).mono fun _ _ ⟨h1,h2⟩ => ⟨h1,hb.trans (h2.mono hb.size)⟩
end Go.Proofs.YtjpfpojbalepeaaGreat
namespace Go.Proofs.YtjpfpojbalepeaaGreat
open Go.RowKit
theorem right_any (bp : Int) (w : World) (hb : Fit bp) :
  Calls Tryz.prog 152 #[.int .i64 bp] w fun e w' => e = .returned (.bool (decide (Sh.Right bp))) ∧ w' = w := by
 obtain ⟨hb0,hb1⟩ := hb
 go_enter Tryz.func152,Tryz.ntmps152
 by_cases h : Sh.Right bp
 ·
  rw [decide_eq_true h]
  obtain ⟨h0,h1⟩ := h
  go_wp2
  go_ret
  exact ⟨rfl,rfl⟩
 ·
  rw [decide_eq_false h]
  by_cases h0 : 0 ≤ bp
  ·
   have h1 : ¬ bp ≤ 100000 := fun h1 => h ⟨h0,h1⟩
   clear h
   go_wp2
   go_ret
   exact ⟨rfl,rfl⟩
  ·
   clear h
   go_wp2
   go_ret
   exact ⟨rfl,rfl⟩
def told (s : Nat) : Int × Int := if s ≤ 9223372036854775807 then ((s : Int),0) else (0,7)
theorem told_fit {s : Nat} (h : s ≤ 9223372036854775807) : told s = ((s : Int),0) := if_pos h
theorem told_not {s : Nat} (h : ¬ s ≤ 9223372036854775807) : told s = (0,7) := if_neg h
set_option maxHeartbeats 1000000 in
theorem parts_any (u bp all : Nat) (w0 w : World) (hw : Below w0.heap.size w0 w) (hu : u ≤ 9223372036854775808) (hb : bp ≤ 100000) (ha0 : 10000 ≤ all) (ha1 : all ≤ 110000) :
  Calls Tryz.prog 174 #[.int .u64 u,.int .u64 bp,.int .u64 all] w fun e w' => e = both (told (Sh.sh u bp all)).1 (told (Sh.sh u bp all)).2 ∧ Below w0.heap.size w0 w' := by
 have hs := Sh.sh_split u bp all (by omega)
 have hl := Sh.last_le (u % all) bp all (Nat.mod_lt _ (by omega))
 have hq : (u : Int) / (all : Int) = ((u / all : Nat) : Int) := by omega
 have hr : (u : Int) % (all : Int) = ((u % all : Nat) : Int) := by omega
 have hr1 : u % all < all := Nat.mod_lt _ (by omega)
 have hm : (u % all) * bp ≤ 110000 * 100000 := Nat.mul_le_mul (by omega) hb
 have hq1 : u / all ≤ 922337203685477 := by
  rw [Nat.div_le_iff_le_mul_add_pred (by omega)]
  have : 10000 * 922337203685477 ≤ all * 922337203685477 := Nat.mul_le_mul_right _ ha0
  omega
 have hz : ((all : Int) == 0) = false := beq_eq_false_iff_ne.2 (by omega)
 have hz2 : ((2 * all : Int) == 0) = false := beq_eq_false_iff_ne.2 (by omega)
 generalize u / all = q at hs hq hq1
 generalize u % all = r at hs hl hr hr1 hm
 have hlast : (2 * (r : Int) * (bp : Int) + all) / (2 * (all : Int)) = (((2 * r * bp + all) / (2 * all) : Nat) : Int) := by push_cast; rfl
 generalize (2 * r * bp + all) / (2 * all) = l at hs hl hlast
 have hm2 : 2 * (r : Int) * (bp : Int) ≤ 22000000000 := by
  have h : ((r * bp : Nat) : Int) = (r : Int) * (bp : Int) := Int.natCast_mul _ _
  rw [Int.mul_assoc]
  omega
 have hm0 : 0 ≤ 2 * (r : Int) * (bp : Int) := Int.mul_nonneg (by omega) (by omega)
 have hp : ((q * bp : Nat) : Int) = (q : Int) * (bp : Int) := Int.natCast_mul _ _
 have HW := Lib.hid hw
 clear hm hw
 rw [hs]
 clear hs
 by_cases hf : q * bp + l ≤ 9223372036854775807
 ·
  rw [told_fit hf]
  have hp0 : 0 ≤ (q : Int) * (bp : Int) := by omega
  have hp1 : (q : Int) * (bp : Int) ≤ 9223372036854775807 - l := by omega
  have HE : Hid ((q : Int) * (bp : Int) + l = ((q * bp + l : Nat) : Int)) := Lib.hid (by omega)
  have hc : 0 < bp → ¬ (9223372036854775807 - (l : Int)) / (bp : Int) < (q : Int) := by
   intro h0
   rw [Int.not_lt,Int.le_ediv_iff_mul_le (by omega)]
   exact hp1
  clear hf hp
  by_cases h0 : 0 < bp
  ·
   have hc1 := hc h0
   clear hc
   go_enter Tryz.func174,Tryz.ntmps174
   go_wp2
   go_quiet (fail)
   go_wp2
   go_ret2
   exact ⟨both_eq HE.out rfl,below_drewN HW.out _⟩
  ·
   clear hc
   go_enter Tryz.func174,Tryz.ntmps174
   go_wp2
   go_quiet (fail)
   go_wp2
   go_ret2
   exact ⟨both_eq HE.out rfl,below_drewN HW.out _⟩
 ·
  rw [told_not hf]
  have h0 : 0 < bp := by
   refine Nat.pos_of_ne_zero fun h => ?_
   subst h
   omega
  have hc : (9223372036854775807 - (l : Int)) / (bp : Int) < (q : Int) := by
   rw [Int.ediv_lt_iff_lt_mul (by omega)]
   omega
  clear hf hp
  go_enter Tryz.func174,Tryz.ntmps174
  go_wp2
  go_quiet (fail)
  go_wp2
  go_ret2
  exact ⟨rfl,below_drewN HW.out _⟩
theorem told_pos (u bp all : Nat) : told (Sh.sh u bp all) = (Sh.val (u : Int) bp all,Sh.why (u : Int) bp all) := by
 unfold told Sh.val Sh.why Sh.side
 rw [Int.natAbs_natCast]
 split
 · rw [if_neg (by omega)]
 · rfl
theorem told_neg (u bp all : Nat) (hu : 0 < u) : (-(told (Sh.sh u bp all)).1,(told (Sh.sh u bp all)).2) = (Sh.val (-(u : Int)) bp all,Sh.why (-(u : Int)) bp all) := by
 unfold told Sh.val Sh.why Sh.side
 rw [Int.natAbs_neg,Int.natAbs_natCast]
 split
 · rw [if_pos (by omega)]
 · rfl
theorem told_fst (s : Nat) : 0 ≤ (told s).1 ∧ (told s).1 ≤ 9223372036854775807 := by
 unfold told
 split
 · exact ⟨by simp,by simp; omega⟩
 · exact ⟨by simp,by simp⟩
theorem wrap_turn (u : Nat) (h : u ≤ 9223372036854775808) : IntKind.u64.wrap (-IntKind.u64.wrap (-(u : Int))) = u := by
 rw [IntKind.wrap_u64,IntKind.wrap_u64]
 omega
set_option maxHeartbeats 1000000 in
theorem share_any (n : Int) (bp all : Nat) (w0 w : World) (hw : Below w0.heap.size w0 w) (hn : Fit n) (hb : bp ≤ 100000) (ha0 : 10000 ≤ all) (ha1 : all ≤ 110000) :
  Calls Tryz.prog 153 #[.int .i64 n,.int .u64 bp,.int .u64 all] w fun e w' => e = both (Sh.val n bp all) (Sh.why n bp all) ∧ Below w0.heap.size w0 w' := by
 have HW := Lib.hid hw
 clear hw
 obtain ⟨hn0,hn1⟩ := hn
 by_cases h : 0 ≤ n
 ·
  obtain ⟨u,rfl⟩ : ∃ u : Nat,n = u := ⟨n.toNat,by omega⟩
  have HT := Lib.hid (told_pos u bp all)
  go_enter Tryz.func153,Tryz.ntmps153
  go_wp2_with fail
  refine (parts_any u bp all w0 _ HW.out (by omega) hb ha0 ha1).mono ?_
  rintro e w1 ⟨rfl,b1⟩
  have HB1 := Lib.hid b1
  clear b1
  rw [HT.out]
  unfold both
  go_wp2_with fail
  go_ret2
  exact ⟨rfl,HB1.out⟩
 ·
  obtain ⟨u,rfl⟩ : ∃ u : Nat,n = -(u : Int) := ⟨n.natAbs,by omega⟩
  have hu : 0 < u := by omega
  have HT := Lib.hid (told_neg u bp all hu)
  obtain ⟨t0,t1⟩ := told_fst (Sh.sh u bp all)
  go_enter Tryz.func153,Tryz.ntmps153
  go_wp2_with fail
  rw [wrap_turn u (by omega)]
  refine (parts_any u bp all w0 _ HW.out (by omega) hb ha0 ha1).mono ?_
  rintro e w1 ⟨rfl,b1⟩
  have HB1 := Lib.hid b1
  clear b1
  obtain ⟨⟨p1,p2⟩,hp⟩ : ∃ p,told (Sh.sh u bp all) = p := ⟨_,rfl⟩
  have HP := Lib.hid (hp ▸ HT.out)
  rw [hp] at t0 t1 ⊢
  clear HT hp
  unfold both
  go_wp2_with fail
  go_ret2
  exact ⟨both_eq (congrArg Prod.fst HP.out) (congrArg Prod.snd HP.out),HB1.out⟩
theorem right_if {bp : Int} (h : Sh.Right bp) (n : Int) : both (Sh.taxV n bp) (Sh.taxE n bp) = both (Sh.val n bp.toNat 10000) (Sh.why n bp.toNat 10000) ∧ both (Sh.inV n bp) (Sh.inE n bp) = both (Sh.val n bp.toNat (10000 + bp.toNat)) (Sh.why n bp.toNat (10000 + bp.toNat)) := by
 unfold Sh.taxV Sh.taxE Sh.inV Sh.inE
 rw [if_pos h,if_pos h,if_pos h,if_pos h]
 exact ⟨rfl,rfl⟩
theorem right_not {bp : Int} (h : ¬ Sh.Right bp) (n : Int) : both (Sh.taxV n bp) (Sh.taxE n bp) = both 0 1 ∧ both (Sh.inV n bp) (Sh.inE n bp) = both 0 1 := by
 unfold Sh.taxV Sh.taxE Sh.inV Sh.inE
 rw [if_neg h,if_neg h,if_neg h,if_neg h]
 exact ⟨rfl,rfl⟩
set_option maxHeartbeats 1000000 in
theorem tax_any (n bp : Int) (w0 w : World) (hw : Below w0.heap.size w0 w) (hn : Fit n) (hb : Fit bp) :
  Calls Tryz.prog 116 #[.int .i64 n,.int .i64 bp] w fun e w' => e = both (Sh.taxV n bp) (Sh.taxE n bp) ∧ Below w0.heap.size w0 w' := by
 have HW := Lib.hid hw
 have HN := Lib.hid hn
 have HB := Lib.hid hb
 clear hw hn hb
 by_cases h : Sh.Right bp
 ·
  rw [(right_if h n).1]
  obtain ⟨u,rfl⟩ : ∃ u : Nat,bp = u := ⟨bp.toNat,by unfold Sh.Right at h; omega⟩
  have hu : u ≤ 100000 := by unfold Sh.Right at h; omega
  rw [Int.toNat_natCast]
  go_enter Tryz.func116,Tryz.ntmps116
  go_wp2_with fail
  refine (right_any u _ HB.out).mono ?_
  rintro e w1 ⟨rfl,hw1⟩
  subst hw1
  rw [decide_eq_true h]
  clear h
  go_wp2_with fail
  refine (share_any n u 10000 w0 _ HW.out HN.out hu (by omega) (by omega)).mono ?_
  rintro e w1 ⟨rfl,b1⟩
  have HB1 := Lib.hid b1
  clear b1
  unfold both
  go_wp2_with fail
  go_ret2
  exact ⟨rfl,HB1.out⟩
 ·
  rw [(right_not h n).1]
  go_enter Tryz.func116,Tryz.ntmps116
  go_wp2_with fail
  refine (right_any bp _ HB.out).mono ?_
  rintro e w1 ⟨rfl,hw1⟩
  subst hw1
  rw [decide_eq_false h]
  clear h
  go_wp2_with fail
  go_ret2
  exact ⟨rfl,HW.out⟩
end Go.Proofs.YtjpfpojbalepeaaGreat
namespace Go.Proofs.YtjpfpojbalepeaaGreat
open Go.RowKit
open Mem
open Go.Sort (grow)
def Bl.hiW (s : Int) : Int := (s / 18446744073709551616) % 18446744073709551616
def Bl.loW (s : Int) : Int := s % 18446744073709551616
theorem Bl.w_bd (s : Int) : 0 ≤ Bl.hiW s ∧ Bl.hiW s < 18446744073709551616 ∧ 0 ≤ Bl.loW s ∧ Bl.loW s < 18446744073709551616 := by
 unfold Bl.hiW Bl.loW
 omega
theorem Bl.w_neg (s n : Int) : (Bl.loW s + (n + 18446744073709551616)) % 18446744073709551616 = Bl.loW (s + n) ∧ (Bl.hiW s + 18446744073709551615 + (Bl.loW s + (n + 18446744073709551616)) / 18446744073709551616) % 18446744073709551616 = Bl.hiW (s + n) := by
 unfold Bl.hiW Bl.loW
 omega
theorem Bl.w_pos (s n : Int) : (Bl.loW s + n) % 18446744073709551616 = Bl.loW (s + n) ∧ (Bl.hiW s + 0 + (Bl.loW s + n) / 18446744073709551616) % 18446744073709551616 = Bl.hiW (s + n) := by
 unfold Bl.hiW Bl.loW
 omega
theorem Bl.w_inj {a b : Int} (ha : -170141183460469231731687303715884105728 ≤ a ∧ a < 170141183460469231731687303715884105728) (hb : -170141183460469231731687303715884105728 ≤ b ∧ b < 170141183460469231731687303715884105728) : (Bl.hiW a = Bl.hiW b ∧ Bl.loW a = Bl.loW b) ↔ a = b := by
 constructor
 ·
  rintro ⟨h1,h2⟩
  unfold Bl.hiW at h1
  unfold Bl.loW at h2
  omega
 ·
  rintro rfl
  exact ⟨rfl,rfl⟩
set_option maxHeartbeats 4000000 in
theorem bil_plus (s n : Int) (w0 w : World) (hw : Below w0.heap.size w0 w) (hn : Fit n) :
  Calls Tryz.prog 117 #[.agg #[.int .u64 (Bl.hiW s),.int .u64 (Bl.loW s)],.int .i64 n] w fun e w' => e = .returned (.agg #[.int .u64 (Bl.hiW (s + n)),.int .u64 (Bl.loW (s + n))]) ∧ Below w0.heap.size w0 w' := by
 have HW := Lib.hid hw
 have HF := Lib.hid hn
 obtain ⟨b0,b1,b2,b3⟩ := Bl.w_bd s
 obtain ⟨U,hU,hB,k0,k1,hs⟩ := Bl.al2 w (.cells #[.int .u64 (Bl.hiW s),.int .u64 (Bl.loW s)] 168) (.cells #[.int .u64 0,.int .u64 0] 168)
 have c0 : U.cell? ⟨w.heap.size,0,none⟩ = some (.int .u64 (Bl.hiW s)) := by rw [cell_of_row U _ 0 _ _ _ k0]; rfl
 have c1 : U.cell? ⟨w.heap.size,1,none⟩ = some (.int .u64 (Bl.loW s)) := by rw [cell_of_row U _ 1 _ _ _ k0]; rfl
 have d0 : U.cell? ⟨w.heap.size + 1,0,none⟩ = some (.int .u64 0) := by rw [cell_of_row U _ 0 _ _ _ k1]; rfl
 have d1 : U.cell? ⟨w.heap.size + 1,1,none⟩ = some (.int .u64 0) := by rw [cell_of_row U _ 1 _ _ _ k1]; rfl
 have z0 : U.frozen? ⟨w.heap.size + 1,0,none⟩ = false := frozen_of_row U _ 0 _ _ k1
 have z1 : U.frozen? ⟨w.heap.size + 1,1,none⟩ = false := frozen_of_row U _ 1 _ _ k1
 have HB := Lib.hid hB
 have HE1 := Lib.hid (Bl.w_neg s n)
 have HE2 := Lib.hid (Bl.w_pos s n)
 obtain ⟨hi,hhi⟩ : ∃ hi,Bl.hiW s = hi := ⟨_,rfl⟩
 obtain ⟨lo,hlo⟩ : ∃ lo,Bl.loW s = lo := ⟨_,rfl⟩
 obtain ⟨hi',hhi'⟩ : ∃ x,Bl.hiW (s + n) = x := ⟨_,rfl⟩
 obtain ⟨lo',hlo'⟩ : ∃ x,Bl.loW (s + n) = x := ⟨_,rfl⟩
 rw [hhi,hlo,hhi',hlo'] at HE1 HE2
 rw [hhi] at b0 b1 hU c0 ⊢
 rw [hlo] at b2 b3 hU c1 ⊢
 rw [hhi',hlo']
 clear hw hn k0 k1 hs hB hhi hlo hhi' hlo'
 by_cases hneg : n < 0
 ·
  have e1 : IntKind.u64.wrap n = n + 18446744073709551616 := by
   rw [IntKind.wrap_u64]
   have := HF.out.1
   omega
  have e2 : n / 9223372036854775808 = -1 := by
   have := HF.out.1
   omega
  have e3 : IntKind.u64.wrap (-1) = 18446744073709551615 := by rw [IntKind.wrap_u64]; rfl
  have add1 := add_two lo (n + 18446744073709551616) 0 b2 (by have := HF.out.1; omega) (by omega) (by omega)
  have add2 := add_two hi 18446744073709551615 ((lo + (n + 18446744073709551616)) / 18446744073709551616) b0 (by omega) (by have := HF.out.1; omega) (by omega)
  rw [Int.add_zero] at add1
  rw [HE1.out.1] at add1
  rw [HE1.out.2] at add2
  obtain ⟨c,hc⟩ : ∃ c,(lo + (n + 18446744073709551616)) / 18446744073709551616 = c := ⟨_,rfl⟩
  rw [hc] at add1 add2
  clear hc HE1 HE2 hneg
  go_enter Tryz.func117,Tryz.ntmps117
  go_wp2_with (simp only [e3,add1,add2])
  exact bodyPost_ret (v := .agg #[.int .u64 hi',.int .u64 lo']) (by simp [results,Tryz.results117,go_sem,d0,d1]) rfl ⟨rfl,bset (bset (bchain HW.out HB.out) (by have := HW.out.size; omega) _ _) (by have := HW.out.size; omega) _ _⟩
 ·
  have e1 : IntKind.u64.wrap n = n := by
   rw [IntKind.wrap_u64]
   have := HF.out.2
   omega
  have e2 : n / 9223372036854775808 = 0 := by
   have := HF.out.2
   omega
  have add1 := add_two lo n 0 b2 (by omega) (by omega) (by omega)
  have add2 := add_two hi 0 ((lo + n) / 18446744073709551616) b0 (by omega) (by omega) (by have := HF.out.2; omega)
  rw [Int.add_zero] at add1
  rw [HE2.out.1] at add1
  rw [HE2.out.2] at add2
  obtain ⟨c,hc⟩ : ∃ c,(lo + n) / 18446744073709551616 = c := ⟨_,rfl⟩
  rw [hc] at add1 add2
  clear hc HE1 HE2 hneg
  go_enter Tryz.func117,Tryz.ntmps117
  go_wp2_with (simp only [add1,add2])
  exact bodyPost_ret (v := .agg #[.int .u64 hi',.int .u64 lo']) (by simp [results,Tryz.results117,go_sem,d0,d1]) rfl ⟨rfl,bset (bset (bchain HW.out HB.out) (by have := HW.out.size; omega) _ _) (by have := HW.out.size; omega) _ _⟩
end Go.Proofs.YtjpfpojbalepeaaGreat
