/- THE WALK OF BillingTaken. -/
import Derived.Test.YtjpfpojbalepeabGreatZB214
import Derived.Test.YtjpfpojbalepeabGreatZB25
import Derived.Deep.DeepCutAuto
set_option maxRecDepth 100000
set_option linter.unusedVariables false
namespace Go.Proofs.YtjpfpojbalepeabGreat
open Go.RowKit
open Mem
structure Tkn (r q : Pd.T) : Prop where
 ofS : r.ofS = q.ser
 ofN : r.ofN = q.num
 back : q.back = true
 none : q.ofS = .empty ∧ q.ofN = 0
 net : r.net = -q.net
 tax : r.tax = -q.tax
 gross : r.gross = -q.gross
theorem Bl.rows_taken {w : World} {s : Bl.St} (hR : Bl.Right s) {rs : List Pd.T} (hE : Bl.Each w rs s.post) {i : Nat} (hi : i < rs.length) : (rs[i].ofS = .empty ∧ rs[i].ofN = 0) ∨
  (¬ (rs[i].ofS = .empty ∧ rs[i].ofN = 0) ∧ rs[i].back = false ∧ ∃ (k : Nat) (hk : k < i),Tkn rs[i] (rs[k]'(by omega)) ∧ ∀ (m : Nat) (hm : m < i),rs[i].ofS = (rs[m]'(by omega)).ser → rs[i].ofN = (rs[m]'(by omega)).num → m = k) := by
 have hip : i < s.post.length := hE.len ▸ hi
 have ei := hE.each i hi
 by_cases ho : Bl.Own s.post[i]
 · exact .inl ⟨ei.ofS.trans ho.1,ei.ofN.trans ho.2⟩
 ·
  obtain ⟨h1,k,hk,h2,h3,h4,h5,h6⟩ := hR.taken hip ho
  have hkr : k < rs.length := by omega
  have ek := hE.each k hkr
  refine .inr ⟨fun h => ho ⟨ei.ofS.symm.trans h.1,ei.ofN.symm.trans h.2⟩,ei.back.trans h1,k,hk,⟨?_,?_,ek.back.trans h4,⟨ek.ofS.trans h5.1,ek.ofN.trans h5.2⟩,?_,?_,?_⟩,?_⟩
  · exact ei.ofS.trans (h3.1.trans ek.ser.symm)
  · exact ei.ofN.trans (h3.2.trans ek.num.symm)
  ·
   rw [ei.net,ek.net,h6]
   rfl
  ·
   rw [ei.tax,ek.tax,h6]
   rfl
  ·
   rw [ei.gross,ek.gross,h6]
   rfl
  ·
   intro m hm e1 e2
   have hmr : m < rs.length := by omega
   have em := hE.each m hmr
   have hmp : m < s.post.length := hE.len ▸ hmr
   have hkp : k < s.post.length := hE.len ▸ hkr
   refine hR.inj hmp hkp ?_ ?_
   ·
    have a1 := ei.ofS.symm.trans (e1.trans em.ser)
    exact a1.symm.trans h3.1
   ·
    have a1 := ei.ofN.symm.trans (e2.trans em.num)
    exact a1.symm.trans h3.2
theorem emptyL : ByteArray.empty.toList = [] := by first | rfl | kernel_rfl | simp | decide +kernel
theorem Pd.short_fit {r : Pd.T} (h : Pd.Short r) : Fit r.net ∧ Fit r.tax ∧ Fit r.gross := ⟨h.2.2.2.2.2.1,h.2.2.2.2.2.2.1,h.2.2.2.2.2.2.2.1⟩
set_option maxHeartbeats 4000000 in
theorem billingTaken_walk (rs0 : List Ca.T) (cs0 : List Bl.Cl) (ao0 : Option Addr) (n0 cap0 : Nat) (w : World) (hC : Bl.Cs w ao0 n0 cap0 rs0 cs0) :
  Calls Tryz.prog 5 #[.slice ao0 n0 cap0] w fun e w' => e = .returned (.bool true) ∧ Below w.heap.size w w' := by
 have HC := Lib.hid hC
 clear hC
 go_enter Tryz.func5,Tryz.ntmps5
 go_upto_region 1 with fail
 go_cut [3,4] (fun p _ wx => ∃ (gs : Nat) (h : Bl.Sv),p = .pointer (some ⟨gs,0,none⟩) ∧ Hid (Below w.heap.size w wx) ∧ Hid (Bl.At wx gs h ∧ Bl.Lies wx h (Bl.play Bl.new (Bl.fewL 60 cs0)).1))
 case first =>
  go_wp2_with fail
  refine (bil_new w _ (Below.refl _ _)).mono ?_
  rintro e w1 ⟨h0,rfl,hL0,b1⟩
  have HL0 := Lib.hid hL0
  have HB1 := Lib.hid b1
  clear hL0 b1
  go_wp2_with fail
  refine (law_fewL rs0 cs0 60 ao0 n0 cap0 w _ HC.out HB1.out (by omega)).mono ?_
  rintro e w2 ⟨ao,n,cap,rs,rfl,hn60,hLs,hin,hE,b2⟩
  have HX := Lib.hid (And.intro hLs hE)
  have HB2 := Lib.hid b2
  clear hLs hin hE b2
  go_wp2_with fail
  refine (bil_play Bl.new (Bl.fewL 60 cs0) h0 rs ao n cap w2 _ (Below.refl _ _) (HL0.out.below HB2.out).lies ⟨HX.out.1,HX.out.2.below (bchain HB1.out HB2.out)⟩ Bl.right_new Bl.few_lines (by omega)).mono ?_
  rintro e w3 ⟨h,ao3,n3,cap3,rfl,hL3,_,_,b3⟩
  have HB3 := Lib.hid (bchain (bchain (bchain HB1.out HB2.out) b3) (Bl.below_own w3 h))
  have HZ := Lib.hid (And.intro (Bl.at_box w3 h) (hL3.lies.below (Bl.below_own w3 h)))
  clear hL3 b3 HX HB1 HB2 HL0
  go_wp2_with (first | ((with_reducible apply Bl.wpl_store (h := h) (g := w3.heap.size)); rfl; rfl; rfl; rfl; rfl; rfl))
  go_meet
  exact ⟨_,h,rfl,HB3,HZ⟩
 case rest =>
  rename World => V
  obtain ⟨gs,h,rfl,HBV,HV⟩ := hcut
  have HRt : Hid (Bl.Right (Bl.play Bl.new (Bl.fewL 60 cs0)).1) := Lib.hid (Bl.Right.played Bl.right_new)
  generalize (Bl.play Bl.new (Bl.fewL 60 cs0)).1 = s at *
  obtain ⟨rs,hPs,hEs⟩ := HV.out.2.post
  have HPs := Lib.hid hPs
  have HEs := Lib.hid hEs
  have hcap := hPs.reach
  have hfit := hPs.fits
  have HN := Lib.hid hPs.len
  clear hPs hEs HC
  obtain ⟨N,hN⟩ : ∃ N,h.post.n = N := ⟨_,rfl⟩
  obtain ⟨ao,hao⟩ : ∃ ao,h.post.ao = ao := ⟨_,rfl⟩
  obtain ⟨cap,hcp⟩ : ∃ cap,h.post.cap = cap := ⟨_,rfl⟩
  rw [hN,hcp,hao] at HPs
  rw [hN] at HN hfit
  rw [hcp] at hcap hfit
  have HQ : Hid (∀ u,Below V.heap.size V u → u.cell? ⟨gs,2,none⟩ = some (.slice ao N cap)) := Lib.hid (fun u hu => by
   obtain ⟨_,_,x2,_⟩ := (HV.out.1.below hu).cells
   rw [hN,hao,hcp] at x2
   exact x2)
  clear hN hao hcp
  go_wp2_with fail
  go_loopw [5,6,7,8,9] (fun j _ _ _ _ wr => ∃ k : Nat,k ≤ N ∧ j = .int .i64 k ∧ Hid (Below V.heap.size V wr)) (fun j _ _ _ _ _ => N - (intOf j).toNat)
  case atStart => exact ⟨0,by omega,rfl,Lib.hid (Below.refl _ _)⟩
  case round =>
   obtain ⟨k,hk,rfl,HB⟩ := hrel
   have x2 := HQ.out _ HB.out
   by_cases hlt : k < N
   ·
    obtain ⟨b,off,rfl⟩ := HPs.out.at (by omega)
    have hkr : k < rs.length := HN.out ▸ hlt
    have hrow := (HPs.out.row k hkr).below HB.out
    have HT := Lib.hid (Bl.rows_taken HRt.out HEs.out hkr)
    obtain ⟨r,hr⟩ : ∃ r,rs[k] = r := ⟨_,rfl⟩
    rw [hr] at hrow HT
    clear hr
    have HBx := Lib.hid (bchain HB.out (Pd.below_own wr r))
    have HCx := Lib.hid (Pd.c_box wr r)
    have hCx := Pd.c_box wr r
    unfold Pd.C at hCx
    obtain ⟨c0,c1,c2,c3,c4,c5,c6,c7,c8,c9,c10,c11⟩ := hCx
    rcases HT.out with ⟨h1,h2⟩ | ⟨hno,hbk,k0,hk0,hTk,hUn⟩
    ·
     have t1 : (r.ofS.toList == []) = true := by rw [h1,emptyL]; rfl
     have t2 : (r.ofN == 0) = true := beq_iff_eq.2 h2
     clear h1 h2
     go_upto_region 6 with (first | ((with_reducible apply Pd.wpl_load hrow); rfl; rfl; rfl) | ((with_reducible apply Pd.wpl_store (r := r) (g := wr.heap.size)); rfl; rfl; rfl; rfl; rfl; rfl))
     go_wp2_with fail
     go_roundw
     case rel => exact ⟨k + 1,by omega,by go_num,HBx⟩
     case measure => simp [intOf]; omega
    ·
     by_cases h1 : r.ofS = .empty
     ·
      have h2 : ¬ r.ofN = 0 := fun e => hno ⟨h1,e⟩
      have t1 : (r.ofS.toList == []) = true := by rw [h1,emptyL]; rfl
      have t2 : (r.ofN == 0) = false := beq_eq_false_iff_ne.2 h2
      clear h1 h2 hno
      rw [hbk] at c11
      go_upto_region 6 with (first | ((with_reducible apply Pd.wpl_load hrow); rfl; rfl; rfl) | ((with_reducible apply Pd.wpl_store (r := r) (g := wr.heap.size)); rfl; rfl; rfl; rfl; rfl; rfl))
      generalize Pd.box wr r = X at *
      go_wp2_with fail
      go_loopw [7,8,9] (fun f j _ wq => ∃ (m : Nat) (B : Bool),m ≤ k ∧ f = .bool B ∧ j = .int .i64 m ∧ Hid (B = decide (k0 < m)) ∧ Hid (Below X.heap.size X wq)) (fun _ j _ _ => k - (intOf j).toNat)
      case atStart => exact ⟨0,false,by omega,rfl,rfl,Lib.hid (decide_eq_false (by omega)).symm,Lib.hid (Below.refl _ _)⟩
      case round =>
       rename World => wq
       obtain ⟨m,B,hm,rfl,rfl,HBm,HBq⟩ := hrel
       have x2q := HQ.out _ (bchain HBx.out HBq.out)
       have hCq := HCx.out.below HBq.out
       unfold Pd.C at hCq
       obtain ⟨d0,d1,d2,d3,d4,d5,d6,d7,d8,d9,d10,d11⟩ := hCq
       by_cases hmk : m < k
       ·
        have hmr : m < rs.length := by omega
        have hrow2 := (HPs.out.row m hmr).below (bchain HBx.out HBq.out)
        have HU := Lib.hid (hUn m hmk)
        have HSq := Lib.hid (Pd.short_fit (HPs.out.short rs[m] (List.getElem_mem hmr)))
        by_cases hmk0 : m = k0
        ·
         subst hmk0
         have HTk := Lib.hid hTk
         obtain ⟨q,hq⟩ : ∃ q,rs[m] = q := ⟨_,rfl⟩
         rw [hq] at hrow2 HTk HSq
         clear hq
         rw [HTk.out.net] at d5
         rw [HTk.out.tax] at d6
         rw [HTk.out.gross] at d7
         rw [HTk.out.ofS] at d9
         rw [HTk.out.ofN] at d10
         have HBy := Lib.hid (bchain HBq.out (Pd.below_own wq q))
         have hl := cell_lt d0
         have hCy := Pd.c_box wq q
         unfold Pd.C at hCy
         obtain ⟨y0,y1,y2,y3,y4,y5,y6,y7,y8,y9,y10,y11⟩ := hCy
         rw [HTk.out.back] at y11
         have z5 := ((bcell (Pd.below_own wq q)).1 wr.heap.size 5 hl).trans d5
         have z6 := ((bcell (Pd.below_own wq q)).1 wr.heap.size 6 hl).trans d6
         have z7 := ((bcell (Pd.below_own wq q)).1 wr.heap.size 7 hl).trans d7
         have z9 := ((bcell (Pd.below_own wq q)).1 wr.heap.size 9 hl).trans d9
         have z10 := ((bcell (Pd.below_own wq q)).1 wr.heap.size 10 hl).trans d10
         have a1 : (q.ser.toList == q.ser.toList) = true := beq_self_eq_true _
         have a2 : (q.num == q.num) = true := beq_self_eq_true _
         have a3 : (q.ofS.toList == []) = true := by rw [HTk.out.none.1,emptyL]; rfl
         have a4 : (q.ofN == 0) = true := beq_iff_eq.2 HTk.out.none.2
         have a5 : (q.net == q.net) = true := beq_self_eq_true _
         have a6 : (q.tax == q.tax) = true := beq_self_eq_true _
         have a7 : (q.gross == q.gross) = true := beq_self_eq_true _
         obtain ⟨⟨b1,b2⟩,⟨b3,b4⟩,⟨b5,b6⟩⟩ := HSq.out
         go_upto_region 14 with (first | ((with_reducible apply Pd.wpl_load hrow2); rfl; rfl; rfl) | ((with_reducible apply Pd.wpl_store (r := q) (g := wq.heap.size)); rfl; rfl; rfl; rfl; rfl; rfl))
         go_wp2_with fail
         go_roundw
         case rel => exact ⟨m + 1,true,by omega,rfl,by go_num,Lib.hid (decide_eq_true (by omega)).symm,HBy⟩
         case measure => simp [intOf]; omega
        ·
         obtain ⟨q,hq⟩ : ∃ q,rs[m] = q := ⟨_,rfl⟩
         rw [hq] at hrow2 HU
         clear hq
         have HBy := Lib.hid (bchain HBq.out (Pd.below_own wq q))
         have hl := cell_lt d0
         have hCy := Pd.c_box wq q
         unfold Pd.C at hCy
         obtain ⟨y0,y1,y2,y3,y4,y5,y6,y7,y8,y9,y10,y11⟩ := hCy
         have z9 := ((bcell (Pd.below_own wq q)).1 wr.heap.size 9 hl).trans d9
         have z10 := ((bcell (Pd.below_own wq q)).1 wr.heap.size 10 hl).trans d10
         have HBn : Hid (B = decide (k0 < m + 1)) := Lib.hid (by rw [HBm.out]; by_cases e : k0 < m; rw [decide_eq_true e,decide_eq_true (by omega)]; rw [decide_eq_false e,decide_eq_false (by omega)])
         by_cases a1 : q.ser = r.ofS
         ·
          have a2 : ¬ q.num = r.ofN := fun e => hmk0 (HU.out a1.symm e.symm)
          have p1 : (q.ser.toList == r.ofS.toList) = true := beq_iff_eq.2 (by rw [a1])
          have p2 : (q.num == r.ofN) = false := beq_eq_false_iff_ne.2 a2
          clear a1 a2
          go_upto_region 14 with (first | ((with_reducible apply Pd.wpl_load hrow2); rfl; rfl; rfl) | ((with_reducible apply Pd.wpl_store (r := q) (g := wq.heap.size)); rfl; rfl; rfl; rfl; rfl; rfl))
          go_wp2_with fail
          go_roundw
          case rel => exact ⟨m + 1,B,by omega,rfl,by go_num,HBn,HBy⟩
          case measure => simp [intOf]; omega
         ·
          have p1 : (q.ser.toList == r.ofS.toList) = false := beq_eq_false_iff_ne.2 fun e => a1 (Vt.cat_ext e)
          clear a1
          go_upto_region 14 with (first | ((with_reducible apply Pd.wpl_load hrow2); rfl; rfl; rfl) | ((with_reducible apply Pd.wpl_store (r := q) (g := wq.heap.size)); rfl; rfl; rfl; rfl; rfl; rfl))
          go_wp2_with fail
          go_roundw
          case rel => exact ⟨m + 1,B,by omega,rfl,by go_num,HBn,HBy⟩
          case measure => simp [intOf]; omega
       ·
        obtain rfl : m = k := by omega
        obtain rfl : B = true := by rw [HBm.out]; exact decide_eq_true hk0
        go_wp2_with fail
        go_roundw
        case rel => exact ⟨m + 1,by omega,by go_num,Lib.hid (bchain HBx.out HBq.out)⟩
        case measure => simp [intOf]; omega
     ·
      have t1 : (r.ofS.toList == []) = false := beq_eq_false_iff_ne.2 fun e => h1 (Vt.cat_ext (e.trans emptyL.symm))
      clear h1 hno
      rw [hbk] at c11
      go_upto_region 6 with (first | ((with_reducible apply Pd.wpl_load hrow); rfl; rfl; rfl) | ((with_reducible apply Pd.wpl_store (r := r) (g := wr.heap.size)); rfl; rfl; rfl; rfl; rfl; rfl))
      generalize Pd.box wr r = X at *
      go_wp2_with fail
      go_loopw [7,8,9] (fun f j _ wq => ∃ (m : Nat) (B : Bool),m ≤ k ∧ f = .bool B ∧ j = .int .i64 m ∧ Hid (B = decide (k0 < m)) ∧ Hid (Below X.heap.size X wq)) (fun _ j _ _ => k - (intOf j).toNat)
      case atStart => exact ⟨0,false,by omega,rfl,rfl,Lib.hid (decide_eq_false (by omega)).symm,Lib.hid (Below.refl _ _)⟩
      case round =>
       rename World => wq
       obtain ⟨m,B,hm,rfl,rfl,HBm,HBq⟩ := hrel
       have x2q := HQ.out _ (bchain HBx.out HBq.out)
       have hCq := HCx.out.below HBq.out
       unfold Pd.C at hCq
       obtain ⟨d0,d1,d2,d3,d4,d5,d6,d7,d8,d9,d10,d11⟩ := hCq
       by_cases hmk : m < k
       ·
        have hmr : m < rs.length := by omega
        have hrow2 := (HPs.out.row m hmr).below (bchain HBx.out HBq.out)
        have HU := Lib.hid (hUn m hmk)
        have HSq := Lib.hid (Pd.short_fit (HPs.out.short rs[m] (List.getElem_mem hmr)))
        by_cases hmk0 : m = k0
        ·
         subst hmk0
         have HTk := Lib.hid hTk
         obtain ⟨q,hq⟩ : ∃ q,rs[m] = q := ⟨_,rfl⟩
         rw [hq] at hrow2 HTk HSq
         clear hq
         rw [HTk.out.net] at d5
         rw [HTk.out.tax] at d6
         rw [HTk.out.gross] at d7
         rw [HTk.out.ofS] at d9
         rw [HTk.out.ofN] at d10
         have HBy := Lib.hid (bchain HBq.out (Pd.below_own wq q))
         have hl := cell_lt d0
         have hCy := Pd.c_box wq q
         unfold Pd.C at hCy
         obtain ⟨y0,y1,y2,y3,y4,y5,y6,y7,y8,y9,y10,y11⟩ := hCy
         rw [HTk.out.back] at y11
         have z5 := ((bcell (Pd.below_own wq q)).1 wr.heap.size 5 hl).trans d5
         have z6 := ((bcell (Pd.below_own wq q)).1 wr.heap.size 6 hl).trans d6
         have z7 := ((bcell (Pd.below_own wq q)).1 wr.heap.size 7 hl).trans d7
         have z9 := ((bcell (Pd.below_own wq q)).1 wr.heap.size 9 hl).trans d9
         have z10 := ((bcell (Pd.below_own wq q)).1 wr.heap.size 10 hl).trans d10
         have a1 : (q.ser.toList == q.ser.toList) = true := beq_self_eq_true _
         have a2 : (q.num == q.num) = true := beq_self_eq_true _
         have a3 : (q.ofS.toList == []) = true := by rw [HTk.out.none.1,emptyL]; rfl
         have a4 : (q.ofN == 0) = true := beq_iff_eq.2 HTk.out.none.2
         have a5 : (q.net == q.net) = true := beq_self_eq_true _
         have a6 : (q.tax == q.tax) = true := beq_self_eq_true _
         have a7 : (q.gross == q.gross) = true := beq_self_eq_true _
         obtain ⟨⟨b1,b2⟩,⟨b3,b4⟩,⟨b5,b6⟩⟩ := HSq.out
         go_upto_region 14 with (first | ((with_reducible apply Pd.wpl_load hrow2); rfl; rfl; rfl) | ((with_reducible apply Pd.wpl_store (r := q) (g := wq.heap.size)); rfl; rfl; rfl; rfl; rfl; rfl))
         go_wp2_with fail
         go_roundw
         case rel => exact ⟨m + 1,true,by omega,rfl,by go_num,Lib.hid (decide_eq_true (by omega)).symm,HBy⟩
         case measure => simp [intOf]; omega
        ·
         obtain ⟨q,hq⟩ : ∃ q,rs[m] = q := ⟨_,rfl⟩
         rw [hq] at hrow2 HU
         clear hq
         have HBy := Lib.hid (bchain HBq.out (Pd.below_own wq q))
         have hl := cell_lt d0
         have hCy := Pd.c_box wq q
         unfold Pd.C at hCy
         obtain ⟨y0,y1,y2,y3,y4,y5,y6,y7,y8,y9,y10,y11⟩ := hCy
         have z9 := ((bcell (Pd.below_own wq q)).1 wr.heap.size 9 hl).trans d9
         have z10 := ((bcell (Pd.below_own wq q)).1 wr.heap.size 10 hl).trans d10
         have HBn : Hid (B = decide (k0 < m + 1)) := Lib.hid (by rw [HBm.out]; by_cases e : k0 < m; rw [decide_eq_true e,decide_eq_true (by omega)]; rw [decide_eq_false e,decide_eq_false (by omega)])
         by_cases a1 : q.ser = r.ofS
         ·
          have a2 : ¬ q.num = r.ofN := fun e => hmk0 (HU.out a1.symm e.symm)
          have p1 : (q.ser.toList == r.ofS.toList) = true := beq_iff_eq.2 (by rw [a1])
          have p2 : (q.num == r.ofN) = false := beq_eq_false_iff_ne.2 a2
          clear a1 a2
          go_upto_region 14 with (first | ((with_reducible apply Pd.wpl_load hrow2); rfl; rfl; rfl) | ((with_reducible apply Pd.wpl_store (r := q) (g := wq.heap.size)); rfl; rfl; rfl; rfl; rfl; rfl))
          go_wp2_with fail
          go_roundw
          case rel => exact ⟨m + 1,B,by omega,rfl,by go_num,HBn,HBy⟩
          case measure => simp [intOf]; omega
         ·
          have p1 : (q.ser.toList == r.ofS.toList) = false := beq_eq_false_iff_ne.2 fun e => a1 (Vt.cat_ext e)
          clear a1
          go_upto_region 14 with (first | ((with_reducible apply Pd.wpl_load hrow2); rfl; rfl; rfl) | ((with_reducible apply Pd.wpl_store (r := q) (g := wq.heap.size)); rfl; rfl; rfl; rfl; rfl; rfl))
          go_wp2_with fail
          go_roundw
          case rel => exact ⟨m + 1,B,by omega,rfl,by go_num,HBn,HBy⟩
          case measure => simp [intOf]; omega
       ·
        obtain rfl : m = k := by omega
        obtain rfl : B = true := by rw [HBm.out]; exact decide_eq_true hk0
        go_wp2_with fail
        go_roundw
        case rel => exact ⟨m + 1,by omega,by go_num,Lib.hid (bchain HBx.out HBq.out)⟩
        case measure => simp [intOf]; omega
   ·
    obtain rfl : k = N := by omega
    go_wp2_with fail
    refine (bruns w _ (bchain HBV.out HB.out)).mono ?_
    rintro e w6 ⟨rfl,b6⟩
    have HB6 := Lib.hid b6
    clear b6
    go_wp2_with fail
    go_ret
    exact ⟨rfl,HB6.out⟩
end Go.Proofs.YtjpfpojbalepeabGreat
