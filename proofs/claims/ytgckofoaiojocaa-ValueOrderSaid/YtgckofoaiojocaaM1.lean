
import Derived.Lib.ValidLaws
import Derived.Lib.RuneBytes
import Derived.Lib.RuneCount
import Derived.Lib.OthersKept
import Derived.Laws.BytesArg
namespace Go.Proofs.Ytgckofoaiojocaa
open Go.Lib
set_option linter.unusedVariables false

/-- What Read gives: the runes of bytes, or nothing. -/
def readF : Nat → List UInt8 → Option (List Int)
  | 0, l => if l = [] then some [] else none
  | f + 1, l => if l = [] then some [] else if (decodeL l).1 = 65533 ∧ (decodeL l).2 = 1 then none else (readF f (l.drop (decodeL l).2)).map fun t => ((decodeL l).1 : Int) :: t
def readL (l : List UInt8) : Option (List Int) := readF l.length l

theorem readF_nil : ∀ f, readF f [] = some []
  | 0 => rfl
  | _ + 1 => by simp [readF]
theorem readF_fuel : ∀ (n m : Nat) (l : List UInt8), l.length ≤ n → l.length ≤ m → readF n l = readF m l
  | 0, m, l, hn, _ => by
    have : l = [] := List.eq_nil_of_length_eq_zero (by omega)
    subst this
    rw [readF_nil, readF_nil]
  | n + 1, 0, l, _, hm => by
    have : l = [] := List.eq_nil_of_length_eq_zero (by omega)
    subst this
    rw [readF_nil, readF_nil]
  | n + 1, m + 1, l, hn, hm => by
    unfold readF
    by_cases hne : l = []
    · simp [hne]
    · have hw := decodeL_width l
      have hl : 0 < l.length := List.length_pos_iff.2 hne
      rw [if_neg hne, if_neg hne, readF_fuel n m (l.drop (decodeL l).2) (by rw [List.length_drop]; omega) (by rw [List.length_drop]; omega)]
theorem readL_nil : readL [] = some [] := rfl
theorem readL_step (l : List UInt8) (hne : l ≠ []) : readL l = if (decodeL l).1 = 65533 ∧ (decodeL l).2 = 1 then none else (readL (l.drop (decodeL l).2)).map fun t => ((decodeL l).1 : Int) :: t := by
  have hl : 0 < l.length := List.length_pos_iff.2 hne
  have hw := decodeL_width l
  obtain ⟨n, hn⟩ : ∃ n, l.length = n + 1 := ⟨l.length - 1, by omega⟩
  unfold readL
  rw [hn]
  show (if l = [] then some [] else _) = _
  rw [if_neg hne, readF_fuel n (l.drop (decodeL l).2).length _ (by rw [List.length_drop]; omega) (Nat.le_refl _)]

/-- The replacement's own three bytes. -/
theorem decode_repl (t : List UInt8) : decodeL (239 :: 191 :: 189 :: t) = (65533, 3) := by
  rw [decodeL_N]
  simp [decodeN]
theorem prefix_repl (l : List UInt8) (h : hasPrefix l [239, 191, 189] = true) : (decodeL l).2 = 3 := by
  unfold hasPrefix at h
  rw [List.isPrefixOf_iff_prefix] at h
  obtain ⟨t, rfl⟩ := h
  rw [show [239, 191, 189] ++ t = 239 :: 191 :: 189 :: t from rfl, decode_repl]
theorem repl_prefix (l : List UInt8) (hne : l ≠ []) (h1 : (decodeL l).1 = 65533) (h2 : (decodeL l).2 ≠ 1) : hasPrefix l [239, 191, 189] = true := by
  have h := encode_decode l hne (fun h => h2 h.2)
  rw [h1] at h
  have e : encodeRune ((65533 : Nat) : Int) = [239, 191, 189] := by decide
  rw [e] at h
  unfold hasPrefix
  rw [List.isPrefixOf_iff_prefix]
  exact h ▸ List.take_prefix _ _

/-- What a round of Read does, in plain words. -/
theorem read_on (L : List UInt8) (pos : Nat) (acc : List Int) (hp : pos < L.length) (hok : ¬ ((decodeL (L.drop pos)).1 = 65533 ∧ (decodeL (L.drop pos)).2 = 1))
    (h : (readL (L.drop pos)).map (fun t => acc ++ t) = readL L) :
    (readL (L.drop (pos + (decodeL (L.drop pos)).2))).map (fun t => (acc ++ [((decodeL (L.drop pos)).1 : Int)]) ++ t) = readL L := by
  have hne : L.drop pos ≠ [] := by
    intro h0
    have := congrArg List.length h0
    simp at this
    omega
  rw [readL_step _ hne, if_neg hok, List.drop_drop] at h
  rw [← h, Option.map_map]
  congr 1
  funext t
  simp
theorem read_off (L : List UInt8) (pos : Nat) (acc : List Int) (hp : pos < L.length) (hok : (decodeL (L.drop pos)).1 = 65533 ∧ (decodeL (L.drop pos)).2 = 1)
    (h : (readL (L.drop pos)).map (fun t => acc ++ t) = readL L) : readL L = none := by
  have hne : L.drop pos ≠ [] := by
    intro h0
    have := congrArg List.length h0
    simp at this
    omega
  rw [readL_step _ hne, if_pos hok] at h
  exact h.symm
theorem read_end (L : List UInt8) (pos : Nat) (acc : List Int) (hp : ¬ pos < L.length) (h : (readL (L.drop pos)).map (fun t => acc ++ t) = readL L) : readL L = some acc := by
  rw [List.drop_eq_nil_of_le (by omega), readL_nil] at h
  simpa using h.symm

/-! ### there and back -/
theorem byteN (z : Int) (h0 : 0 ≤ z) (h1 : z < 256) : (z.toNat.toUInt8).toNat = z.toNat := by
  simp
  omega
theorem decode_encode (r : Int) (hr : 0 ≤ r) (hm : r ≤ 1114111) (hs : ¬ (55296 ≤ r ∧ r ≤ 57343)) (t : List UInt8) : decodeL (encodeRune r ++ t) = (r.toNat, (encodeRune r).length) := by
  rw [decodeL_N]
  unfold encodeRune
  have hcases : r < 128 ∨ (128 ≤ r ∧ r < 2048) ∨ (2048 ≤ r ∧ r < 65536) ∨ 65536 ≤ r := by omega
  rcases hcases with h | ⟨h, h'⟩ | ⟨h, h'⟩ | h
  · rw [encodeRuneZ_one (by omega) (by omega)]
    simp only [List.map_cons, List.map_nil, List.cons_append, List.nil_append, List.getD_cons_zero, List.getD_cons_succ, List.length_cons, List.length_nil]
    rw [byteN r (by omega) (by omega), decodeN_ascii _ _ _ _ _ (by omega)]
  · rw [encodeRuneZ_two (by omega) (by omega)]
    simp only [List.map_cons, List.map_nil, List.cons_append, List.nil_append, List.getD_cons_zero, List.getD_cons_succ, List.length_cons, List.length_nil]
    rw [byteN _ (show 0 ≤ 192 + r / 64 by omega) (by omega), byteN _ (show 0 ≤ 128 + r % 64 by omega) (by omega)]
    unfold decodeN
    rw [if_neg (by omega), if_pos (by omega), if_pos (by omega)]
    congr 1
    omega
  · rw [encodeRuneZ_three (by omega)]
    simp only [List.map_cons, List.map_nil, List.cons_append, List.nil_append, List.getD_cons_zero, List.getD_cons_succ, List.length_cons, List.length_nil]
    rw [byteN _ (show 0 ≤ 224 + r / 4096 by omega) (by omega), byteN _ (show 0 ≤ 128 + r / 64 % 64 by omega) (by omega), byteN _ (show 0 ≤ 128 + r % 64 by omega) (by omega)]
    unfold decodeN
    rw [if_neg (by omega), if_neg (by omega), if_pos (by omega), if_pos (by omega)]
    congr 1
    omega
  · rw [encodeRuneZ_four (by omega) (by omega)]
    simp only [List.map_cons, List.map_nil, List.cons_append, List.nil_append, List.getD_cons_zero, List.getD_cons_succ, List.length_cons, List.length_nil]
    rw [byteN _ (show 0 ≤ 240 + r / 262144 by omega) (by omega), byteN _ (show 0 ≤ 128 + r / 4096 % 64 by omega) (by omega), byteN _ (show 0 ≤ 128 + r / 64 % 64 by omega) (by omega), byteN _ (show 0 ≤ 128 + r % 64 by omega) (by omega)]
    unfold decodeN
    rw [if_neg (by omega), if_neg (by omega), if_neg (by omega), if_pos (by omega), if_pos (by omega)]
    congr 1
    omega
def mayP (r : Int) : Prop := 0 ≤ r ∧ r ≤ 1114111 ∧ ¬ (55296 ≤ r ∧ r ≤ 57343)
def encs (xs : List Int) : List UInt8 := xs.flatMap encodeRune
theorem encs_cons (x : Int) (t : List Int) : encs (x :: t) = encodeRune x ++ encs t := rfl
theorem encodeRune_len (r : Int) : 1 ≤ (encodeRune r).length ∧ (encodeRune r).length ≤ 4 := by
  have := runeCells_le r
  rwa [runeCells_length] at this
/-- Runes that may be are read out of their bytes. -/
theorem read_encs : ∀ xs : List Int, (∀ x ∈ xs, mayP x) → readL (encs xs) = some xs
  | [], _ => rfl
  | x :: t, h => by
    obtain ⟨h0, h1, h2⟩ := h x (by simp)
    have ih := read_encs t (fun y hy => h y (by simp [hy]))
    have hl := encodeRune_len x
    have hne : encs (x :: t) ≠ [] := by
      intro h0
      have := congrArg List.length h0
      rw [encs_cons, List.length_append, List.length_nil] at this
      omega
    have hd := decode_encode x h0 h1 h2 (encs t)
    rw [readL_step _ hne, encs_cons, hd, if_neg]
    · simp only [List.drop_left, ih, Option.map_some]
      rw [Int.toNat_of_nonneg h0]
    · rintro ⟨e1, e2⟩
      have : x = 65533 := by dsimp only at e1; omega
      subst this
      exact absurd e2 (by decide)
theorem decodeN_may (n b0 b1 b2 b3 : Nat) (h0 : b0 < 256) : mayP ((decodeN n b0 b1 b2 b3).1 : Int) := by
  have h := decodeN_rune_le n b0 b1 b2 b3 h0
  rcases decodeN_shape n b0 b1 b2 b3 with ⟨c, e⟩ | ⟨c1, c2, c3, cv, e⟩ | ⟨c1, c2, c3, c4, cv, cs, e⟩ | ⟨c1, c2, c3, c4, c5, cv, cw, e⟩ | e
  all_goals (rw [e] at h ⊢; unfold mayP; dsimp only at h ⊢; omega)
/-- What is read may be, and has just these bytes. -/
theorem encs_read : ∀ (n : Nat) (l : List UInt8) (xs : List Int), l.length ≤ n → readL l = some xs → encs xs = l ∧ ∀ x ∈ xs, mayP x
  | 0, l, xs, hn, h => by
    have : l = [] := List.eq_nil_of_length_eq_zero (by omega)
    subst this
    rw [readL_nil] at h
    obtain rfl : [] = xs := by simpa using h
    exact ⟨rfl, by simp⟩
  | n + 1, l, xs, hn, h => by
    by_cases hne : l = []
    · subst hne
      rw [readL_nil] at h
      obtain rfl : [] = xs := by simpa using h
      exact ⟨rfl, by simp⟩
    · rw [readL_step l hne] at h
      split at h
      · cases h
      · rename_i hv
        have hw := decodeL_width l
        have hl : 0 < l.length := List.length_pos_iff.2 hne
        cases hr : readL (l.drop (decodeL l).2) with
        | none => rw [hr] at h; cases h
        | some t =>
          rw [hr] at h
          obtain rfl : ((decodeL l).1 : Int) :: t = xs := by simpa using h
          obtain ⟨ih1, ih2⟩ := encs_read n _ t (by rw [List.length_drop]; omega) hr
          refine ⟨?_, ?_⟩
          · rw [encs_cons, ih1, encode_decode l hne hv, List.take_append_drop]
          · intro x hx
            rcases List.mem_cons.1 hx with rfl | hx
            · rw [decodeL_N]
              exact decodeN_may _ _ _ _ _ (UInt8.toNat_lt _)
            · exact ih2 x hx
end Go.Proofs.Ytgckofoaiojocaa
