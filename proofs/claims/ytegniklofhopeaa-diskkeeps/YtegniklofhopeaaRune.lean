/- PLAIN LEAN: a text by its runes, as the model's own decoder tells them; names, folding, cutting, reading; no Go here. -/
import Derived.Lib.MapLaws
import Derived.Laws.Runes
namespace Go.Proofs.Ytegniklofhopeaa.Rn
open Go.Lib

/-! ### the decoder -/
theorem dw (l : List UInt8) : 1 ≤ (decodeL l).2 := decodeL_width l
theorem dle (l : List UInt8) (h : l ≠ []) : (decodeL l).2 ≤ l.length := decodeL_le l h
set_option maxHeartbeats 2000000 in
theorem decodeN_cut (n n' b0 b1 b2 b3 c1 c2 c3 : Nat) (hn : n' ≤ n) (hw : (decodeN n b0 b1 b2 b3).2 ≤ n') (h1 : 1 < n' → c1 = b1) (h2 : 2 < n' → c2 = b2) (h3 : 3 < n' → c3 = b3) :
    decodeN n' b0 c1 c2 c3 = decodeN n b0 b1 b2 b3 := by
  rcases decodeN_shape n b0 b1 b2 b3 with ⟨c, e⟩ | ⟨d1, d2, d3, dv, e⟩ | ⟨d1, d2, d3, d4, dv, ds, e⟩ | ⟨d1, d2, d3, d4, d5, dv, dx, e⟩ | e
  · rw [e]; simp [decodeN, c]
  · rw [e] at hw ⊢
    dsimp only at hw
    rw [h1 (by omega)]
    unfold decodeN
    rw [if_neg (by omega), if_pos ⟨d1, by omega, d3⟩, if_pos (by omega)]
  · rw [e] at hw ⊢
    dsimp only at hw
    rw [h1 (by omega), h2 (by omega)]
    unfold decodeN
    rw [if_neg (by omega), if_neg (by omega), if_pos ⟨d1, ⟨by omega, d3⟩, by omega, d4⟩, if_pos ⟨by omega, by omega⟩]
  · rw [e] at hw ⊢
    dsimp only at hw
    rw [h1 (by omega), h2 (by omega), h3 (by omega)]
    unfold decodeN
    rw [if_neg (by omega), if_neg (by omega), if_neg (by omega), if_pos ⟨d1, ⟨by omega, d3⟩, ⟨by omega, d4⟩, by omega, d5⟩, if_pos ⟨by omega, by omega⟩]
  · rw [e] at hw ⊢
    unfold decodeN at e ⊢
    repeat' split
    all_goals first
      | rfl
      | (exfalso
         have E1 := h1 (by omega)
         subst E1
         first
           | (have E2 := h2 (by omega)
              subst E2
              first
                | (have E3 := h3 (by omega)
                   subst E3
                   simp_all
                   done)
                | (simp_all; done)
                | skip)
           | (simp_all; done)
           | skip
         repeat' split at e
         all_goals first
           | omega
           | (simp only [Prod.mk.injEq] at e; omega))
      | (exfalso
         repeat' split at e
         all_goals first
           | omega
           | (simp only [Prod.mk.injEq] at e; omega))

theorem decodeL_take (l : List UInt8) (k : Nat) (hk : (decodeL l).2 ≤ k) (hl : k ≤ l.length) : decodeL (l.take k) = decodeL l := by
  have h0 := dw l
  rw [decodeL_N, decodeL_N, List.length_take, Nat.min_eq_left hl, getD_takeU l k 0 (by omega)]
  rw [decodeL_N] at hk
  exact decodeN_cut _ _ _ _ _ _ _ _ _ hl hk (fun h => by rw [getD_takeU l k 1 h]) (fun h => by rw [getD_takeU l k 2 h]) (fun h => by rw [getD_takeU l k 3 h])
theorem decodeN_grow (n n' b0 b1 b2 b3 c1 c2 c3 : Nat) (hn : n ≤ n') (hv : (decodeN n b0 b1 b2 b3).1 ≠ 65533) (h1 : 1 < n → c1 = b1) (h2 : 2 < n → c2 = b2) (h3 : 3 < n → c3 = b3) :
    decodeN n' b0 c1 c2 c3 = decodeN n b0 b1 b2 b3 := by
  rcases decodeN_shape n b0 b1 b2 b3 with ⟨c, e⟩ | ⟨d1, d2, d3, dv, e⟩ | ⟨d1, d2, d3, d4, dv, ds, e⟩ | ⟨d1, d2, d3, d4, d5, dv, dx, e⟩ | e
  · rw [e]; simp [decodeN, c]
  · rw [e, h1 (by omega)]
    unfold decodeN
    rw [if_neg (by omega), if_pos ⟨d1, by omega, d3⟩, if_pos (by omega)]
  · rw [e, h1 (by omega), h2 (by omega)]
    unfold decodeN
    rw [if_neg (by omega), if_neg (by omega), if_pos ⟨d1, ⟨by omega, d3⟩, by omega, d4⟩, if_pos ⟨by omega, by omega⟩]
  · rw [e, h1 (by omega), h2 (by omega), h3 (by omega)]
    unfold decodeN
    rw [if_neg (by omega), if_neg (by omega), if_neg (by omega), if_pos ⟨d1, ⟨by omega, d3⟩, ⟨by omega, d4⟩, by omega, d5⟩, if_pos ⟨by omega, by omega⟩]
  · rw [e] at hv
    exact absurd rfl hv
theorem getD_app (a b : List UInt8) (k : Nat) (h : k < a.length) : (a ++ b).getD k 0 = a.getD k 0 := by
  simp [List.getD, List.getElem?_append_left h]
theorem decodeL_app (a b : List UInt8) (h : a ≠ []) (hv : (decodeL a).1 ≠ 65533) : decodeL (a ++ b) = decodeL a := by
  have hl : 0 < a.length := List.length_pos_iff.2 h
  rw [decodeL_N, decodeL_N, getD_app a b 0 hl]
  rw [decodeL_N] at hv
  exact decodeN_grow _ _ _ _ _ _ _ _ _ (by simp) hv (fun h => by rw [getD_app a b 1 h]) (fun h => by rw [getD_app a b 2 h]) (fun h => by rw [getD_app a b 3 h])
theorem valid_of (l : List UInt8) : validRune ((decodeL l).1 : Int) = true := by
  have k0 := (l.getD 0 0).toNat_lt
  rw [decodeL_N]
  simp only [validRune, decide_eq_true_eq]
  rcases decodeN_shape l.length (l.getD 0 0).toNat (l.getD 1 0).toNat (l.getD 2 0).toNat (l.getD 3 0).toNat with ⟨c, e⟩ | ⟨c1, c2, c3, cv, e⟩ | ⟨c1, c2, c3, c4, cv, cs, e⟩ | ⟨c1, c2, c3, c4, c5, cv, cw, e⟩ | e
  all_goals (rw [e]; dsimp only; omega)
theorem low_one (l : List UInt8) (h : (decodeL l).1 < 128) : (decodeL l) = ((l.getD 0 0).toNat, 1) := by
  rw [decodeL_N] at h ⊢
  rcases decodeN_shape l.length (l.getD 0 0).toNat (l.getD 1 0).toNat (l.getD 2 0).toNat (l.getD 3 0).toNat with ⟨c, e⟩ | ⟨c1, c2, c3, cv, e⟩ | ⟨c1, c2, c3, c4, cv, cs, e⟩ | ⟨c1, c2, c3, c4, c5, cv, cw, e⟩ | e
  all_goals (rw [e] at h ⊢; try (dsimp only at h; omega))
theorem low_head (b : UInt8) (l : List UInt8) (h : b.toNat < 128) : decodeL (b :: l) = (b.toNat, 1) := by
  rw [decodeL_N]
  exact decodeN_ascii _ _ _ _ _ (by simpa using h)
/-- What takes more than one byte has no byte below 128. -/
theorem high_all (l : List UInt8) (h : 1 < (decodeL l).2) : ∀ b ∈ l.take (decodeL l).2, 128 ≤ b.toNat := by
  rw [decodeL_N] at h ⊢
  rcases decodeN_shape l.length (l.getD 0 0).toNat (l.getD 1 0).toNat (l.getD 2 0).toNat (l.getD 3 0).toNat with ⟨c, e⟩ | ⟨c1, c2, c3, cv, e⟩ | ⟨c1, c2, c3, c4, cv, cs, e⟩ | ⟨c1, c2, c3, c4, c5, cv, cw, e⟩ | e
  · rw [e] at h; simp at h
  · rw [e]; dsimp only; rw [takeB l c2]; intro b hb; simp only [List.mem_cons, List.not_mem_nil, or_false] at hb; rcases hb with rfl | rfl <;> omega
  · rw [e]; dsimp only; rw [takeC l c2]; intro b hb; simp only [List.mem_cons, List.not_mem_nil, or_false] at hb; rcases hb with rfl | rfl | rfl <;> omega
  · rw [e]; dsimp only; rw [takeD l c2]; intro b hb; simp only [List.mem_cons, List.not_mem_nil, or_false] at hb; rcases hb with rfl | rfl | rfl | rfl <;> omega
  · rw [e] at h; simp at h

/-! ### the encoder -/
theorem u8z (z : Int) (_ : 0 ≤ z) (h1 : z < 256) : (z.toNat.toUInt8).toNat = z.toNat := by
  simp; omega
theorem encode_eq (r : Int) : Utf8.encode r = ⟨(encodeRune r).toArray⟩ := by
  unfold Utf8.encode encodeRune
  have hv : Utf8.valid r = validRune r := validRune_eq r
  by_cases hb : r < 0 ∨ (55296 ≤ r ∧ r ≤ 57343) ∨ 1114111 < r
  · have : Utf8.valid r = false := by rw [hv]; simp only [validRune, decide_eq_false_iff_not]; omega
    rw [encodeRuneZ_bad hb]
    simp [this, Utf8.runeError]
  · have : Utf8.valid r = true := by rw [hv]; simp only [validRune, decide_eq_true_eq]; omega
    simp only [this, if_true]
    by_cases h1 : r ≤ 127
    · rw [encodeRuneZ_one (by omega) h1, if_pos (by omega)]
      rfl
    · rw [if_neg (by omega)]
      by_cases h2 : r ≤ 2047
      · rw [encodeRuneZ_two (by omega) h2, if_pos (by omega)]
        simp only [List.map_cons, List.map_nil]
        rw [show (192 + r / 64).toNat = 192 + r.toNat / 64 from by omega, show (128 + r % 64).toNat = 128 + r.toNat % 64 from by omega]
      · rw [if_neg (by omega)]
        by_cases h3 : r ≤ 65535
        · rw [encodeRuneZ_three (by omega), if_pos (by omega)]
          simp only [List.map_cons, List.map_nil]
          rw [show (224 + r / 4096).toNat = 224 + r.toNat / 4096 from by omega, show (128 + r / 64 % 64).toNat = 128 + r.toNat / 64 % 64 from by omega, show (128 + r % 64).toNat = 128 + r.toNat % 64 from by omega]
        · rw [encodeRuneZ_four (by omega) (by omega), if_neg (by omega)]
          simp only [List.map_cons, List.map_nil]
          rw [show (240 + r / 262144).toNat = 240 + r.toNat / 262144 from by omega, show (128 + r / 4096 % 64).toNat = 128 + r.toNat / 4096 % 64 from by omega, show (128 + r / 64 % 64).toNat = 128 + r.toNat / 64 % 64 from by omega, show (128 + r % 64).toNat = 128 + r.toNat % 64 from by omega]
theorem enc_len (r : Int) : 1 ≤ (encodeRune r).length ∧ (encodeRune r).length ≤ 4 := by
  have := encodeRuneZ_length r
  simpa [encodeRune] using this
theorem enc_size (r : Int) : (Utf8.encode r).size = (encodeRune r).length := by rw [encode_eq]; rfl
theorem enc_list (r : Int) : (Utf8.encode r).data.toList = encodeRune r := by rw [encode_eq]
theorem enc_ne (r : Int) : encodeRune r ≠ [] := fun h => by have := enc_len r; rw [h] at this; simp at this
/-- A rune that can be written is read again as it was, whatever follows. -/
theorem decode_enc (r : Nat) (hv : validRune (r : Int) = true) (l : List UInt8) : decodeL (encodeRune (r : Int) ++ l) = (r, (encodeRune (r : Int)).length) := by
  simp only [validRune, decide_eq_true_eq] at hv
  unfold encodeRune
  by_cases h1 : r ≤ 127
  · rw [encodeRuneZ_one (by omega) (by omega), decodeL_N]
    simp only [List.map_cons, List.map_nil, List.cons_append, List.nil_append, List.getD_cons_zero, List.length_cons, List.length_nil]
    rw [u8z _ (by omega) (by omega), decodeN_ascii _ _ _ _ _ (by omega)]
    simp
  · by_cases h2 : r ≤ 2047
    · rw [encodeRuneZ_two (by omega) (by omega), decodeL_N]
      simp only [List.map_cons, List.map_nil, List.cons_append, List.nil_append, List.getD_cons_zero, List.getD_cons_succ, List.length_cons, List.length_nil]
      rw [u8z _ (by omega) (by omega), u8z _ (by omega) (by omega)]
      unfold decodeN
      rw [if_neg (by omega), if_pos ⟨by omega, by omega, by omega⟩, if_pos (by omega)]
      exact Prod.ext (by dsimp only; omega) rfl
    · by_cases h3 : r ≤ 65535
      · rw [encodeRuneZ_three (by omega), decodeL_N]
        simp only [List.map_cons, List.map_nil, List.cons_append, List.nil_append, List.getD_cons_zero, List.getD_cons_succ, List.length_cons, List.length_nil]
        rw [u8z _ (by omega) (by omega), u8z _ (by omega) (by omega), u8z _ (by omega) (by omega)]
        unfold decodeN
        rw [if_neg (by omega), if_neg (by omega), if_pos ⟨by omega, ⟨by omega, by omega⟩, by omega, by omega⟩, if_pos ⟨by omega, by omega⟩]
        exact Prod.ext (by dsimp only; omega) rfl
      · rw [encodeRuneZ_four (by omega) (by omega), decodeL_N]
        simp only [List.map_cons, List.map_nil, List.cons_append, List.nil_append, List.getD_cons_zero, List.getD_cons_succ, List.length_cons, List.length_nil]
        rw [u8z _ (by omega) (by omega), u8z _ (by omega) (by omega), u8z _ (by omega) (by omega), u8z _ (by omega) (by omega)]
        unfold decodeN
        rw [if_neg (by omega), if_neg (by omega), if_neg (by omega), if_pos ⟨by omega, ⟨by omega, by omega⟩, ⟨by omega, by omega⟩, by omega, by omega⟩, if_pos ⟨by omega, by omega⟩]
        exact Prod.ext (by dsimp only; omega) rfl
/-- A rune that was told by bytes that are UTF-8 is as wide as it is written. -/
theorem width_enc (l : List UInt8) (hne : l ≠ []) (hv : (decodeL l).1 ≠ 65533) : (encodeRune ((decodeL l).1 : Int)).length = (decodeL l).2 := by
  rw [encode_decode l hne (fun h => hv h.1), List.length_take, Nat.min_eq_left (dle l hne)]

/-! ### a text's runes -/
def runesF : Nat → List UInt8 → List Nat
  | 0, _ => []
  | f + 1, l => if l = [] then [] else (decodeL l).1 :: runesF f (l.drop (decodeL l).2)
def runes (l : List UInt8) : List Nat := runesF l.length l
theorem runesF_fuel : ∀ (n m : Nat) (l : List UInt8), l.length ≤ n → l.length ≤ m → runesF n l = runesF m l
  | 0, 0, _, _, _ => rfl
  | 0, m + 1, l, hn, _ => by
    have : l = [] := List.eq_nil_of_length_eq_zero (by omega)
    simp [runesF, this]
  | n + 1, 0, l, _, hm => by
    have : l = [] := List.eq_nil_of_length_eq_zero (by omega)
    simp [runesF, this]
  | n + 1, m + 1, l, hn, hm => by
    by_cases hne : l = []
    · simp [runesF, hne]
    · have hw := dw l
      have hl : 0 < l.length := List.length_pos_iff.2 hne
      simp only [runesF, if_neg hne]
      rw [runesF_fuel n m _ (by rw [List.length_drop]; omega) (by rw [List.length_drop]; omega)]
theorem runes_nil : runes [] = [] := rfl
theorem runes_step (l : List UInt8) (hne : l ≠ []) : runes l = (decodeL l).1 :: runes (l.drop (decodeL l).2) := by
  have hw := dw l
  have hl : 0 < l.length := List.length_pos_iff.2 hne
  unfold runes
  obtain ⟨n, hn⟩ : ∃ n, l.length = n + 1 := ⟨l.length - 1, by omega⟩
  rw [hn]
  simp only [runesF, if_neg hne]
  rw [runesF_fuel n _ _ (by rw [List.length_drop]; omega) (Nat.le_refl _)]
/-- Induction over a text, rune by rune. -/
theorem byRunes {motive : List UInt8 → Prop} (hnil : motive []) (hstep : ∀ l, l ≠ [] → motive (l.drop (decodeL l).2) → motive l) (l : List UInt8) : motive l := by
  have H : ∀ (n : Nat) (l : List UInt8), l.length ≤ n → motive l := by
    intro n
    induction n with
    | zero => intro l h; rw [List.eq_nil_of_length_eq_zero (Nat.le_zero.1 h)]; exact hnil
    | succ n ih =>
      intro l h
      by_cases hne : l = []
      · rw [hne]; exact hnil
      · have hw := dw l
        have hl : 0 < l.length := List.length_pos_iff.2 hne
        exact hstep l hne (ih _ (by rw [List.length_drop]; omega))
  exact H _ l (Nat.le_refl _)
theorem runes_len (l : List UInt8) : (runes l).length ≤ l.length := by
  induction l using byRunes with
  | hnil => simp [runes_nil]
  | hstep l hne ih =>
    have hw := dw l
    have hl : 0 < l.length := List.length_pos_iff.2 hne
    rw [runes_step l hne, List.length_cons]
    rw [List.length_drop] at ih
    omega
theorem runes_valid (l : List UInt8) : ∀ r ∈ runes l, validRune (r : Int) = true := by
  induction l using byRunes with
  | hnil => simp [runes_nil]
  | hstep l hne ih =>
    rw [runes_step l hne]
    intro r hr
    rcases List.mem_cons.1 hr with rfl | hr
    · exact valid_of l
    · exact ih r hr
theorem runes_enc (r : Nat) (hv : validRune (r : Int) = true) (l : List UInt8) : runes (encodeRune (r : Int) ++ l) = r :: runes l := by
  rw [runes_step _ (by simp [enc_ne]), decode_enc r hv l]
  simp
theorem runes_flat : ∀ (rs : List Nat), (∀ r ∈ rs, validRune (r : Int) = true) → runes (rs.flatMap fun (r : Nat) => encodeRune (r : Int)) = rs
  | [], _ => rfl
  | r :: rs, h => by
    rw [List.flatMap_cons, runes_enc r (h r (by simp)), runes_flat rs (fun x hx => h x (by simp [hx]))]
theorem runes_app (a b : List UInt8) (h : ∀ r ∈ runes a, r ≠ 65533) : runes (a ++ b) = runes a ++ runes b := by
  induction a using byRunes with
  | hnil => simp [runes_nil]
  | hstep a hne ih =>
    rw [runes_step a hne] at h ⊢
    have h1 := decodeL_app a b hne (h _ (by simp))
    rw [runes_step (a ++ b) (by simp [hne]), h1, List.drop_append_of_le_length (dle a hne), ih (fun r hr => h r (by simp [hr]))]
    rfl
/-- A byte below 128 is a rune by itself, wherever it stands. -/
theorem mem_runes (l : List UInt8) (b : UInt8) (hb : b.toNat < 128) (hm : b ∈ l) : b.toNat ∈ runes l := by
  induction l using byRunes with
  | hnil => simp at hm
  | hstep l hne ih =>
    rw [runes_step l hne]
    rw [← List.take_append_drop (decodeL l).2 l, List.mem_append] at hm
    rcases hm with hm | hm
    · by_cases h1 : 1 < (decodeL l).2
      · have := high_all l h1 b hm
        omega
      · have hw := dw l
        have e1 : (decodeL l).2 = 1 := by omega
        cases l with
        | nil => exact absurd rfl hne
        | cons c l =>
          rw [e1] at hm
          simp only [List.take_succ_cons, List.take_zero, List.mem_singleton] at hm
          subst hm
          rw [low_head b l hb]
          simp
    · exact List.mem_cons_of_mem _ (ih hm)
/-- Bytes below 128 are their own runes. -/
theorem runes_low : ∀ (l : List UInt8), (∀ b ∈ l, b.toNat < 128) → runes l = l.map (·.toNat)
  | [], _ => rfl
  | b :: l, h => by
    rw [runes_step _ (by simp), low_head b l (h b (by simp))]
    simp only [List.drop_succ_cons, List.drop_zero, List.map_cons]
    rw [runes_low l (fun c hc => h c (by simp [hc]))]
theorem runes_ne (l : List UInt8) (h : l ≠ []) : runes l ≠ [] := by rw [runes_step l h]; simp

/-! ### letters, names, folding -/
def letter (r : Int) : Bool := (decide (97 ≤ r ∧ r ≤ 122) || decide (65 ≤ r ∧ r ≤ 90)) || decide (192 ≤ r ∧ r ≤ 591 ∧ r ≠ 215 ∧ r ≠ 247)
def digit (r : Int) : Bool := decide (48 ≤ r ∧ r ≤ 57)
def inner (r : Int) : Bool := digit r || decide (r = 45 ∨ r = 95 ∨ r = 46)
def small (r : Int) : Int := if (65 ≤ r ∧ r ≤ 90) ∨ (192 ≤ r ∧ r ≤ 222 ∧ r ≠ 215) then r + 32 else r
def smallN (r : Nat) : Nat := (small r).toNat
theorem small_nat (r : Nat) : small (r : Int) = (smallN r : Int) := by
  unfold smallN small
  split <;> omega
def nameOk : Bool → List Nat → Bool
  | _, [] => true
  | first, r :: rs => (letter r || (!first && inner r)) && nameOk false rs
def name (l : List UInt8) : Bool := (!l.isEmpty && decide (l.length ≤ 24)) && nameOk true (runes l)
def fold (l : List UInt8) : List UInt8 := (runes l).flatMap fun (r : Nat) => encodeRune (small (r : Int))
theorem fold_nil : fold [] = [] := rfl
theorem fold_step (l : List UInt8) (h : l ≠ []) : fold l = encodeRune (small ((decodeL l).1 : Int)) ++ fold (l.drop (decodeL l).2) := by
  unfold fold
  rw [runes_step l h, List.flatMap_cons]
theorem small_valid (r : Nat) (h : validRune (r : Int) = true) : validRune (smallN r : Int) = true := by
  rw [← small_nat]
  simp only [validRune, decide_eq_true_eq] at h ⊢
  unfold small
  split <;> omega
theorem fold_eq (l : List UInt8) : fold l = ((runes l).map smallN).flatMap fun (r : Nat) => encodeRune (r : Int) := by
  unfold fold
  rw [List.flatMap_map]
  simp only [small_nat]
theorem runes_fold (l : List UInt8) : runes (fold l) = (runes l).map smallN := by
  rw [fold_eq]
  apply runes_flat
  intro r hr
  obtain ⟨x, hx, rfl⟩ := List.mem_map.1 hr
  exact small_valid x (runes_valid l x hx)
theorem smallN_smallN (r : Nat) : smallN (smallN r) = smallN r := by
  unfold smallN small
  split <;> split <;> omega
theorem fold_fold (l : List UInt8) : fold (fold l) = fold l := by
  rw [fold_eq (fold l), runes_fold, List.map_map, fold_eq l]
  congr 1
  apply List.map_congr_left
  intro r _
  exact smallN_smallN r
theorem width_fold (l : List UInt8) : (runes (fold l)).length = (runes l).length := by rw [runes_fold, List.length_map]
theorem fold_small (l : List UInt8) : ∀ r ∈ runes (fold l), ¬ (65 ≤ r ∧ r ≤ 90) := by
  rw [runes_fold]
  intro r hr
  obtain ⟨x, _, rfl⟩ := List.mem_map.1 hr
  unfold smallN small
  split <;> omega
theorem letter_small (r : Nat) (h : letter (r : Int) = true) : letter (smallN r : Int) = true := by
  rw [← small_nat]
  simp only [letter, Bool.or_eq_true, decide_eq_true_eq] at h ⊢
  unfold small
  split <;> omega
theorem inner_small (r : Nat) (h : inner (r : Int) = true) : inner (smallN r : Int) = true := by
  rw [← small_nat]
  simp only [inner, digit, Bool.or_eq_true, decide_eq_true_eq] at h ⊢
  unfold small
  split <;> omega
theorem nameOk_small : ∀ (rs : List Nat) (f : Bool), nameOk f rs = true → nameOk f (rs.map smallN) = true
  | [], _, _ => rfl
  | r :: rs, f, h => by
    simp only [nameOk, List.map_cons, Bool.and_eq_true, Bool.or_eq_true] at h ⊢
    refine ⟨?_, nameOk_small rs false h.2⟩
    rcases h.1 with h1 | h1
    · exact .inl (letter_small r h1)
    · exact .inr ⟨h1.1, inner_small r h1.2⟩
theorem nameOk_any : ∀ (rs : List Nat) (f : Bool), nameOk f rs = true → ∀ r ∈ rs, letter (r : Int) = true ∨ inner (r : Int) = true
  | [], _, _ => by simp
  | r :: rs, f, h => by
    simp only [nameOk, Bool.and_eq_true, Bool.or_eq_true] at h
    intro x hx
    rcases List.mem_cons.1 hx with rfl | hx
    · exact h.1.imp id (·.2)
    · exact nameOk_any rs false h.2 x hx
theorem nameOk_weak : ∀ (rs : List Nat), nameOk true rs = true → nameOk false rs = true
  | [], _ => rfl
  | r :: rs, h => by
    simp only [nameOk, Bool.and_eq_true, Bool.or_eq_true] at h ⊢
    refine ⟨?_, h.2⟩
    rcases h.1 with h1 | h1
    · exact .inl h1
    · simp at h1
theorem nameOk_app : ∀ (a b : List Nat) (f : Bool), a ≠ [] → nameOk f a = true → nameOk false b = true → nameOk f (a ++ b) = true
  | [], _, _, h, _, _ => absurd rfl h
  | [r], b, f, _, h, hb => by
    simp only [nameOk, Bool.and_eq_true, List.cons_append, List.nil_append] at h ⊢
    exact ⟨h.1, hb⟩
  | r :: x :: a, b, f, _, h, hb => by
    simp only [List.cons_append]
    rw [nameOk, Bool.and_eq_true] at h ⊢
    exact ⟨h.1, nameOk_app (x :: a) b false (by simp) h.2 hb⟩
theorem not_err (r : Nat) (h : letter (r : Int) = true ∨ inner (r : Int) = true) : r ≠ 65533 := by
  simp only [letter, inner, digit, Bool.or_eq_true, decide_eq_true_eq] at h
  omega
theorem small_len (r : Nat) : (encodeRune (small (r : Int))).length = (encodeRune (r : Int)).length := by
  unfold small
  split
  · rename_i h
    rcases h with h | h
    · simp only [encodeRune, List.length_map]
      rw [encodeRuneZ_one (by omega) (by omega), encodeRuneZ_one (by omega) (by omega)]
      rfl
    · simp only [encodeRune, List.length_map]
      rw [encodeRuneZ_two (by omega) (by omega), encodeRuneZ_two (by omega) (by omega)]
      rfl
  · rfl
theorem fold_len (l : List UInt8) (h : ∀ r ∈ runes l, r ≠ 65533) : (fold l).length = l.length := by
  induction l using byRunes with
  | hnil => rfl
  | hstep l hne ih =>
    rw [runes_step l hne] at h
    have hd := dle l hne
    rw [fold_step l hne, List.length_append, ih (fun r hr => h r (by simp [hr])), small_len, width_enc l hne (h _ (by simp)), List.length_drop]
    omega
theorem fold_len3 (l : List UInt8) : (fold l).length ≤ 3 * l.length := by
  induction l using byRunes with
  | hnil => simp [fold_nil]
  | hstep l hne ih =>
    have hd := dle l hne
    have hw := dw l
    rw [fold_step l hne, List.length_append, small_len]
    rw [List.length_drop] at ih
    by_cases hv : (decodeL l).1 = 65533
    · have : (encodeRune (((decodeL l).1 : Nat) : Int)).length = 3 := by rw [hv]; decide
      omega
    · rw [width_enc l hne hv]
      omega
theorem name_fold (l : List UInt8) (h : name l = true) : name (fold l) = true := by
  unfold name at h ⊢
  rw [Bool.and_eq_true, Bool.and_eq_true] at h ⊢
  obtain ⟨⟨h1, h2⟩, h3⟩ := h
  have hl := fold_len l (fun r hr => not_err r (nameOk_any _ _ h3 r hr))
  refine ⟨⟨?_, by rw [hl]; exact h2⟩, by rw [runes_fold]; exact nameOk_small _ _ h3⟩
  have : l ≠ [] := by intro e; rw [e] at h1; simp at h1
  have h0 : 0 < l.length := List.length_pos_iff.2 this
  cases hf : fold l with
  | nil => rw [hf] at hl; simp at hl; omega
  | cons _ _ => rfl
theorem name_not (l : List UInt8) (b : UInt8) (hb : b.toNat < 128) (hm : b ∈ l) (h1 : letter (b.toNat : Int) = false) (h2 : inner (b.toNat : Int) = false) : name l = false := by
  cases h : name l with
  | false => rfl
  | true =>
    unfold name at h
    rw [Bool.and_eq_true] at h
    rcases nameOk_any _ _ h.2 _ (mem_runes l b hb hm) with e | e
    · rw [e] at h1; cases h1
    · rw [e] at h2; cases h2
theorem name_app (a b : List UInt8) (ha : name a = true) (hb : nameOk false (runes b) = true) (hl : a.length + b.length ≤ 24) : name (a ++ b) = true := by
  unfold name at ha ⊢
  rw [Bool.and_eq_true, Bool.and_eq_true] at ha ⊢
  obtain ⟨⟨h1, h2⟩, h3⟩ := ha
  have hne : a ≠ [] := by intro e; rw [e] at h1; simp at h1
  refine ⟨⟨by cases a with | nil => exact absurd rfl hne | cons _ _ => rfl, by rw [decide_eq_true_eq, List.length_append]; exact hl⟩, ?_⟩
  rw [runes_app a b (fun r hr => not_err r (nameOk_any _ _ h3 r hr))]
  exact nameOk_app _ _ _ (runes_ne a hne) h3 hb
theorem name_ok (a : List UInt8) (h : name a = true) : nameOk true (runes a) = true := by
  unfold name at h
  rw [Bool.and_eq_true] at h
  exact h.2
theorem nameOk_cons_low (c : UInt8) (b : List UInt8) (hc : c.toNat < 128) (hi : inner (c.toNat : Int) = true) (hb : nameOk false (runes b) = true) : nameOk false (runes (c :: b)) = true := by
  rw [runes_step _ (by simp), low_head c b hc]
  simp only [List.drop_succ_cons, List.drop_zero, nameOk, hi, hb, Bool.not_false, Bool.and_true, Bool.or_true]

/-! ### cutting -/
def cutF : Nat → List UInt8 → Int → Nat
  | 0, _, _ => 0
  | f + 1, l, n => if l = [] then 0 else if n < 1 then 0 else (decodeL l).2 + cutF f (l.drop (decodeL l).2) (n - 1)
def cut (l : List UInt8) (n : Int) : Nat := cutF l.length l n
theorem cutF_fuel : ∀ (n m : Nat) (l : List UInt8) (k : Int), l.length ≤ n → l.length ≤ m → cutF n l k = cutF m l k
  | 0, 0, _, _, _, _ => rfl
  | 0, m + 1, l, k, hn, _ => by
    have : l = [] := List.eq_nil_of_length_eq_zero (by omega)
    simp [cutF, this]
  | n + 1, 0, l, k, _, hm => by
    have : l = [] := List.eq_nil_of_length_eq_zero (by omega)
    simp [cutF, this]
  | n + 1, m + 1, l, k, hn, hm => by
    by_cases hne : l = []
    · simp [cutF, hne]
    · have hw := dw l
      have hl : 0 < l.length := List.length_pos_iff.2 hne
      simp only [cutF, if_neg hne]
      rw [cutF_fuel n m _ _ (by rw [List.length_drop]; omega) (by rw [List.length_drop]; omega)]
theorem cut_nil (n : Int) : cut [] n = 0 := rfl
theorem cut_low (l : List UInt8) (n : Int) (h : n < 1) : cut l n = 0 := by
  unfold cut
  cases l.length with
  | zero => rfl
  | succ f => simp [cutF, h]
theorem cut_step (l : List UInt8) (n : Int) (hne : l ≠ []) (h : 1 ≤ n) : cut l n = (decodeL l).2 + cut (l.drop (decodeL l).2) (n - 1) := by
  have hw := dw l
  have hl : 0 < l.length := List.length_pos_iff.2 hne
  unfold cut
  obtain ⟨m, hm⟩ : ∃ m, l.length = m + 1 := ⟨l.length - 1, by omega⟩
  rw [hm]
  simp only [cutF, if_neg hne]
  rw [if_neg (by omega), cutF_fuel m _ _ _ (by rw [List.length_drop]; omega) (Nat.le_refl _)]
theorem cut_le (l : List UInt8) : ∀ n, cut l n ≤ l.length := by
  induction l using byRunes with
  | hnil => intro n; simp [cut_nil]
  | hstep l hne ih =>
    intro n
    by_cases h : n < 1
    · rw [cut_low l n h]; omega
    · rw [cut_step l n hne (by omega)]
      have := ih (n - 1)
      have hd := dle l hne
      rw [List.length_drop] at this
      omega
theorem cut_runes (l : List UInt8) : ∀ n, runes l = runes (l.take (cut l n)) ++ runes (l.drop (cut l n)) := by
  induction l using byRunes with
  | hnil => intro n; simp [cut_nil, runes_nil]
  | hstep l hne ih =>
    intro n
    by_cases h : n < 1
    · rw [cut_low l n h]; simp [runes_nil]
    · have hk := cut_le l n
      have hs := cut_step l n hne (by omega)
      have hd := dle l hne
      have hw := dw l
      have hl : 0 < l.length := List.length_pos_iff.2 hne
      have e := decodeL_take l (cut l n) (by omega) hk
      have hne2 : l.take (cut l n) ≠ [] := by
        intro e2
        have := congrArg List.length e2
        rw [List.length_take, List.length_nil, Nat.min_eq_left hk] at this
        omega
      rw [runes_step l hne, runes_step _ hne2, e, ih (n - 1), hs, List.drop_take, List.drop_drop, Nat.add_sub_cancel_left]
      rfl
theorem cut_width (l : List UInt8) : ∀ n : Int, ((runes (l.take (cut l n))).length : Int) = min (max n 0) ((runes l).length : Int) := by
  induction l using byRunes with
  | hnil => intro n; simp only [cut_nil, List.take_zero, runes_nil, List.length_nil]; omega
  | hstep l hne ih =>
    intro n
    by_cases h : n < 1
    · rw [cut_low l n h]; simp only [List.take_zero, runes_nil, List.length_nil]; omega
    · have hk := cut_le l n
      have hs := cut_step l n hne (by omega)
      have hd := dle l hne
      have hw := dw l
      have hl : 0 < l.length := List.length_pos_iff.2 hne
      have e := decodeL_take l (cut l n) (by omega) hk
      have hne2 : l.take (cut l n) ≠ [] := by
        intro e2
        have := congrArg List.length e2
        rw [List.length_take, List.length_nil, Nat.min_eq_left hk] at this
        omega
      have i := ih (n - 1)
      rw [runes_step l hne, runes_step _ hne2, e, hs, List.drop_take, Nat.add_sub_cancel_left, List.length_cons, List.length_cons]
      omega
theorem cut_all (l : List UInt8) : ∀ n : Int, ((runes l).length : Int) ≤ n → cut l n = l.length := by
  induction l using byRunes with
  | hnil => intro n _; rfl
  | hstep l hne ih =>
    intro n h
    rw [runes_step l hne, List.length_cons] at h
    have hd := dle l hne
    rw [cut_step l n hne (by omega), ih (n - 1) (by omega), List.length_drop]
    omega

/-! ### digits -/
def digGo : Nat → List Nat → Option Nat
  | a, [] => some a
  | a, r :: rs => if 48 ≤ r ∧ r ≤ 57 then digGo (10 * a + (r - 48)) rs else none
def digits (l : List UInt8) : Option Nat := if l = [] ∨ 18 < l.length ∨ (l.head? = some 48 ∧ l ≠ [48]) then none else digGo 0 (runes l)
theorem digGo_bad : ∀ (rs : List Nat) (a : Nat) (r : Nat), r ∈ rs → ¬ (48 ≤ r ∧ r ≤ 57) → digGo a rs = none
  | [], _, _, h, _ => by simp at h
  | x :: rs, a, r, h, hr => by
    unfold digGo
    split
    · rename_i hx
      rcases List.mem_cons.1 h with rfl | h
      · exact absurd hx hr
      · exact digGo_bad rs _ r h hr
    · rfl
theorem digGo_high (l : List UInt8) (b : UInt8) (hm : b ∈ l) (hb : ¬ (48 ≤ b.toNat ∧ b.toNat ≤ 57)) : ∀ a, digGo a (runes l) = none := by
  induction l using byRunes with
  | hnil => simp at hm
  | hstep l hne ih =>
    intro a
    rw [runes_step l hne]
    unfold digGo
    split
    · rename_i hx
      have e := low_one l (by omega)
      rw [e] at hx ih ⊢
      dsimp only at hx ih ⊢
      cases l with
      | nil => exact absurd rfl hne
      | cons c l =>
        rcases List.mem_cons.1 hm with rfl | hm
        · exact absurd (by simpa using hx) hb
        · exact ih (by simpa using hm) _
    · rfl
theorem digits_bad (l : List UInt8) (b : UInt8) (hm : b ∈ l) (hb : ¬ (48 ≤ b.toNat ∧ b.toNat ≤ 57)) : digits l = none := by
  unfold digits
  split
  · rfl
  · exact digGo_high l b hm hb 0
def val (a : Nat) (l : List UInt8) : Nat := l.foldl (fun x b => 10 * x + (b.toNat - 48)) a
theorem digGo_cons (a r : Nat) (rs) (h : 48 ≤ r ∧ r ≤ 57) : digGo a (r :: rs) = digGo (10 * a + (r - 48)) rs := by
  rw [digGo, if_pos h]
theorem val_cons (a : Nat) (b : UInt8) (l : List UInt8) : val a (b :: l) = val (10 * a + (b.toNat - 48)) l := by
  unfold val
  rw [List.foldl_cons]
theorem digGo_val (l : List UInt8) : ∀ (a : Nat), (∀ b ∈ l, 48 ≤ b.toNat ∧ b.toNat ≤ 57) → digGo a (l.map (·.toNat)) = some (val a l) := by
  induction l with
  | nil => intro a _; rfl
  | cons b l ih =>
    intro a h
    have hb : 48 ≤ b.toNat ∧ b.toNat ≤ 57 := h b (List.mem_cons_self ..)
    have e := ih (10 * a + (b.toNat - 48)) (fun c hc => h c (List.mem_cons_of_mem _ hc))
    rw [List.map_cons, digGo_cons _ _ _ hb, val_cons]
    exact e
theorem digits_val (l : List UInt8) (h : ∀ b ∈ l, 48 ≤ b.toNat ∧ b.toNat ≤ 57) (hn : l ≠ []) (hl : l.length ≤ 18) (h0 : l.head? ≠ some 48 ∨ l = [48]) : digits l = some (val 0 l) := by
  unfold digits
  rw [if_neg, runes_low l (fun b hb => by have := h b hb; omega), digGo_val l 0 h]
  rintro (e | e | e)
  · exact hn e
  · omega
  · rcases h0 with h0 | h0
    · exact h0 e.1
    · exact e.2 h0
theorem val_lin : ∀ (l : List UInt8) (a : Nat), val a l = a * 10 ^ l.length + val 0 l
  | [], a => by simp [val]
  | b :: l, a => by
    rw [val_cons, val_cons, List.length_cons]
    rw [val_lin l (10 * a + (b.toNat - 48)), val_lin l (10 * 0 + (b.toNat - 48)), Nat.pow_succ, Nat.add_mul, ← Nat.add_assoc]
    congr 1
    rw [Nat.mul_zero, Nat.zero_add]
    congr 1
    rw [Nat.mul_comm 10 a, Nat.mul_assoc, Nat.mul_comm 10]
theorem digGo_lt : ∀ (rs : List Nat) (a v : Nat), digGo a rs = some v → v < (a + 1) * 10 ^ rs.length
  | [], a, v, h => by simp [digGo] at h; simp; omega
  | r :: rs, a, v, h => by
    unfold digGo at h
    split at h
    · have := digGo_lt rs _ v h
      have h2 : (10 * a + (r - 48) + 1) * 10 ^ rs.length ≤ (a + 1) * 10 ^ (rs.length + 1) := by
        rw [Nat.pow_succ, Nat.mul_comm (10 ^ rs.length) 10, ← Nat.mul_assoc]
        exact Nat.mul_le_mul_right _ (by omega)
      rw [List.length_cons]
      omega
    · cases h
end Go.Proofs.Ytegniklofhopeaa.Rn
