import Derived.Test.YtkacgfoglfoaiaaL1
namespace Go.Proofs.Ytkacgfoglfoaiaa
open Go.Lib
set_option linter.unusedVariables false

theorem enc_ne (x : Int) (t : List UInt8) : encodeRune x ++ t ≠ [] := by
  intro h0
  have hl := encodeRune_len x
  have := congrArg List.length h0
  rw [List.length_append, List.length_nil] at this
  omega
theorem read_cons (x : Int) (t : List UInt8) (h : mayP x) : readL (encodeRune x ++ t) = (readL t).map fun u => x :: u := by
  obtain ⟨h0, h1, h2⟩ := h
  have hd := decode_encode x h0 h1 h2 t
  rw [readL_step _ (enc_ne x t), hd, if_neg]
  · simp only [List.drop_left]
    rw [Int.toNat_of_nonneg h0]
  · rintro ⟨e1, e2⟩
    have : x = 65533 := by dsimp only at e1; omega
    subst this
    exact absurd e2 (by decide)
theorem read_pre : ∀ (xs : List Int) (t : List UInt8), (∀ x ∈ xs, mayP x) → readL t = none → readL (encs xs ++ t) = none
  | [], t, _, h => h
  | x :: xs, t, hm, h => by
    rw [encs_cons, List.append_assoc, read_cons x _ (hm x (by simp)), read_pre xs t (fun y hy => hm y (by simp [hy])) h]
    rfl
theorem read_bad (l : List UInt8) (hne : l ≠ []) (h : decodeL l = (65533, 1)) : readL l = none := by
  rw [readL_step l hne, h, if_pos ⟨rfl, rfl⟩]

/-- The beginning of a rune's bytes is none. -/
theorem read_part (x : Int) (h : mayP x) (m : Nat) (h1 : 1 ≤ m) (h2 : m < (encodeRune x).length) : readL ((encodeRune x).take m) = none := by
  obtain ⟨p0, p1, p2⟩ := h
  refine read_bad _ ?_ ?_
  · intro h0
    have := congrArg List.length h0
    rw [List.length_take, List.length_nil] at this
    omega
  · rw [decodeL_N]
    unfold encodeRune at h2 ⊢
    have hcases : x < 128 ∨ (128 ≤ x ∧ x < 2048) ∨ (2048 ≤ x ∧ x < 65536) ∨ 65536 ≤ x := by omega
    rcases hcases with h | ⟨h, h'⟩ | ⟨h, h'⟩ | h
    · rw [encodeRuneZ_one (by omega) (by omega)] at h2
      simp at h2
      omega
    · rw [encodeRuneZ_two (by omega) (by omega)] at h2 ⊢
      simp only [List.map_cons, List.map_nil, List.length_cons, List.length_nil] at h2
      obtain rfl : m = 1 := by omega
      simp only [List.map_cons, List.map_nil, List.take_succ_cons, List.take_zero, List.getD_cons_zero, List.length_cons, List.length_nil]
      rw [byteN _ (show 0 ≤ 192 + x / 64 by omega) (by omega)]
      exact decodeN_alone _ _ _ _ _ (by omega) (.inl (by omega))
    · rw [encodeRuneZ_three (by omega)] at h2 ⊢
      simp only [List.map_cons, List.map_nil, List.length_cons, List.length_nil] at h2
      have hm : m = 1 ∨ m = 2 := by omega
      rcases hm with rfl | rfl
      · simp only [List.map_cons, List.map_nil, List.take_succ_cons, List.take_zero, List.getD_cons_zero, List.length_cons, List.length_nil]
        rw [byteN _ (show 0 ≤ 224 + x / 4096 by omega) (by omega)]
        exact decodeN_alone _ _ _ _ _ (by omega) (.inl (by omega))
      · simp only [List.map_cons, List.map_nil, List.take_succ_cons, List.take_zero, List.getD_cons_zero, List.getD_cons_succ, List.length_cons, List.length_nil]
        rw [byteN _ (show 0 ≤ 224 + x / 4096 by omega) (by omega), byteN _ (show 0 ≤ 128 + x / 64 % 64 by omega) (by omega)]
        unfold decodeN
        rw [if_neg (by omega), if_neg (by omega), if_neg (by omega), if_neg (by omega)]
    · rw [encodeRuneZ_four (by omega) (by omega)] at h2 ⊢
      simp only [List.map_cons, List.map_nil, List.length_cons, List.length_nil] at h2
      have hm : m = 1 ∨ m = 2 ∨ m = 3 := by omega
      rcases hm with rfl | rfl | rfl
      · simp only [List.map_cons, List.map_nil, List.take_succ_cons, List.take_zero, List.getD_cons_zero, List.length_cons, List.length_nil]
        rw [byteN _ (show 0 ≤ 240 + x / 262144 by omega) (by omega)]
        exact decodeN_alone _ _ _ _ _ (by omega) (.inl (by omega))
      · simp only [List.map_cons, List.map_nil, List.take_succ_cons, List.take_zero, List.getD_cons_zero, List.getD_cons_succ, List.length_cons, List.length_nil]
        rw [byteN _ (show 0 ≤ 240 + x / 262144 by omega) (by omega), byteN _ (show 0 ≤ 128 + x / 4096 % 64 by omega) (by omega)]
        unfold decodeN
        rw [if_neg (by omega), if_neg (by omega), if_neg (by omega), if_neg (by omega)]
      · simp only [List.map_cons, List.map_nil, List.take_succ_cons, List.take_zero, List.getD_cons_zero, List.getD_cons_succ, List.length_cons, List.length_nil]
        rw [byteN _ (show 0 ≤ 240 + x / 262144 by omega) (by omega), byteN _ (show 0 ≤ 128 + x / 4096 % 64 by omega) (by omega), byteN _ (show 0 ≤ 128 + x / 64 % 64 by omega) (by omega)]
        unfold decodeN
        rw [if_neg (by omega), if_neg (by omega), if_neg (by omega), if_neg (by omega)]

/-- Bytes that are cut within the last rune are none. -/
theorem read_cut (xs : List Int) (x : Int) (k : Nat) (h : allMay (xs ++ [x]) = true) (h1 : 1 ≤ k) (h2 : k < (utfZ [x]).length) : readL (bl ((utfZ (xs ++ [x])).take ((utfZ (xs ++ [x])).length - k))) = none := by
  have hm := (allMay_iff _).1 h
  have e0 : utfZ [x] = encodeRuneZ x := by simp [utfZ]
  rw [e0] at h2
  have el : (encodeRune x).length = (encodeRuneZ x).length := by simp [encodeRune]
  have e1 : bl ((utfZ (xs ++ [x])).take ((utfZ (xs ++ [x])).length - k)) = encs xs ++ (encodeRune x).take ((encodeRune x).length - k) := by
    have q : bl ((utfZ (xs ++ [x])).take ((utfZ (xs ++ [x])).length - k)) = (bl (utfZ (xs ++ [x]))).take ((utfZ (xs ++ [x])).length - k) := by
      rw [bl_map, bl_map, List.map_take]
    rw [q, bl_utfZ, utfZ_snoc, List.length_append]
    have q2 : encs (xs ++ [x]) = encs xs ++ encodeRune x := by simp [encs]
    have q3 : (utfZ xs).length = (encs xs).length := by rw [← bl_utfZ, bl_len]
    rw [q2, q3, ← el, List.take_append]
    have q4 : (encs xs).length + (encodeRune x).length - k - (encs xs).length = (encodeRune x).length - k := by omega
    rw [q4, List.take_of_length_le (by omega)]
  rw [e1]
  exact read_pre xs _ (fun y hy => hm y (by simp [hy])) (read_part x (hm x (by simp)) _ (by omega) (by omega))
end Go.Proofs.Ytkacgfoglfoaiaa
