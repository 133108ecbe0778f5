import Derived.Test.YtkacgfoglfoaiaaL1
import Derived.Test.YtkacgfoglfoaiaaM2
namespace Go.Proofs.Ytkacgfoglfoaiaa
open Go.Lib
set_option linter.unusedVariables false

/-- Rows of numbers, in the order of their numbers. -/
def lessP : List Int → List Int → Prop
  | [], [] => False
  | [], _ :: _ => True
  | _ :: _, [] => False
  | x :: l, y :: m => x < y ∨ (x = y ∧ lessP l m)
theorem lessP_asymm : ∀ a b : List Int, lessP a b → ¬ lessP b a
  | [], [], h, _ => h
  | [], _ :: _, _, h => h
  | _ :: _, [], h, _ => h
  | x :: l, y :: m, h, k => by
    simp only [lessP] at h k
    rcases h with h | ⟨rfl, h⟩
    · rcases k with k | ⟨rfl, k⟩ <;> omega
    · rcases k with k | ⟨_, k⟩
      · omega
      · exact lessP_asymm l m h k
theorem lessP_app : ∀ (p a b : List Int), lessP (p ++ a) (p ++ b) ↔ lessP a b
  | [], a, b => Iff.rfl
  | x :: p, a, b => by
    simp only [List.cons_append, lessP]
    rw [lessP_app p a b]
    constructor
    · rintro (h | ⟨_, h⟩)
      · omega
      · exact h
    · exact fun h => .inr ⟨trivial, h⟩

theorem enc_less (r s : Int) (hr : mayP r) (hs : mayP s) (h : r < s) (t u : List Int) : lessP (encodeRuneZ r ++ t) (encodeRuneZ s ++ u) := by
  obtain ⟨r0, r1, r2⟩ := hr
  obtain ⟨s0, s1, s2⟩ := hs
  have cr : r < 128 ∨ (128 ≤ r ∧ r < 2048) ∨ (2048 ≤ r ∧ r < 65536) ∨ 65536 ≤ r := by omega
  have cs : s < 128 ∨ (128 ≤ s ∧ s < 2048) ∨ (2048 ≤ s ∧ s < 65536) ∨ 65536 ≤ s := by omega
  rcases cr with c | ⟨c, c'⟩ | ⟨c, c'⟩ | c
  · rw [encodeRuneZ_one (by omega) (by omega)]
    rcases cs with d | ⟨d, d'⟩ | ⟨d, d'⟩ | d
    · rw [encodeRuneZ_one (by omega) (by omega)]; exact .inl (by omega)
    · rw [encodeRuneZ_two (by omega) (by omega)]; exact .inl (by omega)
    · rw [encodeRuneZ_three (by omega)]; exact .inl (by omega)
    · rw [encodeRuneZ_four (by omega) (by omega)]; exact .inl (by omega)
  · rw [encodeRuneZ_two (by omega) (by omega)]
    rcases cs with d | ⟨d, d'⟩ | ⟨d, d'⟩ | d
    · omega
    · rw [encodeRuneZ_two (by omega) (by omega)]
      by_cases e1 : r / 64 = s / 64
      · exact .inr ⟨by omega, .inl (by omega)⟩
      · exact .inl (by omega)
    · rw [encodeRuneZ_three (by omega)]; exact .inl (by omega)
    · rw [encodeRuneZ_four (by omega) (by omega)]; exact .inl (by omega)
  · rw [encodeRuneZ_three (by omega)]
    rcases cs with d | ⟨d, d'⟩ | ⟨d, d'⟩ | d
    · omega
    · omega
    · rw [encodeRuneZ_three (by omega)]
      by_cases e1 : r / 4096 = s / 4096
      · by_cases e2 : r / 64 % 64 = s / 64 % 64
        · exact .inr ⟨by omega, .inr ⟨by omega, .inl (by omega)⟩⟩
        · exact .inr ⟨by omega, .inl (by omega)⟩
      · exact .inl (by omega)
    · rw [encodeRuneZ_four (by omega) (by omega)]; exact .inl (by omega)
  · rw [encodeRuneZ_four (by omega) (by omega)]
    rcases cs with d | ⟨d, d'⟩ | ⟨d, d'⟩ | d
    · omega
    · omega
    · omega
    · rw [encodeRuneZ_four (by omega) (by omega)]
      by_cases e1 : r / 262144 = s / 262144
      · by_cases e2 : r / 4096 % 64 = s / 4096 % 64
        · by_cases e3 : r / 64 % 64 = s / 64 % 64
          · exact .inr ⟨by omega, .inr ⟨by omega, .inr ⟨by omega, .inl (by omega)⟩⟩⟩
          · exact .inr ⟨by omega, .inr ⟨by omega, .inl (by omega)⟩⟩
        · exact .inr ⟨by omega, .inl (by omega)⟩
      · exact .inl (by omega)

/-- The model's order of bytes is that of their numbers. -/
theorem bytes_less : ∀ (a b : List Int), (∀ x ∈ a, 0 ≤ x ∧ x < 256) → (∀ x ∈ b, 0 ≤ x ∧ x < 256) → (Op.bytesLess (a.map fun n => UInt8.ofNat n.toNat) (b.map fun n => UInt8.ofNat n.toNat) = true ↔ lessP a b)
  | [], [], _, _ => by simp [Op.bytesLess, lessP]
  | [], _ :: _, _, _ => by simp [Op.bytesLess, lessP]
  | _ :: _, [], _, _ => by simp [Op.bytesLess, lessP]
  | x :: l, y :: m, ha, hb => by
    have hx := ha x (by simp)
    have hy := hb y (by simp)
    have ih := bytes_less l m (fun z hz => ha z (by simp [hz])) (fun z hz => hb z (by simp [hz]))
    have e1 : (UInt8.ofNat x.toNat < UInt8.ofNat y.toNat) ↔ x < y := by
      rw [UInt8.lt_iff_toNat_lt]
      simp
      omega
    have e2 : (UInt8.ofNat x.toNat = UInt8.ofNat y.toNat) ↔ x = y := by
      rw [← UInt8.toNat_inj]
      simp
      omega
    simp only [List.map_cons, Op.bytesLess, lessP, Bool.or_eq_true, Bool.and_eq_true, decide_eq_true_eq, beq_iff_eq, e1, e2, ih]

theorem utfZ_byte (xs : List Int) : ∀ z ∈ utfZ xs, 0 ≤ z ∧ z < 256 := by
  intro z hz
  unfold utfZ at hz
  rw [List.mem_flatMap] at hz
  obtain ⟨x, _, hx⟩ := hz
  exact encodeRuneZ_byte x z hx

theorem str_toList (xs : List Int) : (strOfNums xs).toList = xs.map fun n => UInt8.ofNat n.toNat := by
  rw [toList_data]
  rfl
theorem str_less (a b : List Int) : Op.bytesLess (strOfNums (utfZ a)).toList (strOfNums (utfZ b)).toList = true ↔ lessP (utfZ a) (utfZ b) := by
  rw [str_toList, str_toList]
  exact bytes_less _ _ (utfZ_byte a) (utfZ_byte b)

theorem utfZ_cons (x : Int) (t : List Int) : utfZ (x :: t) = encodeRuneZ x ++ utfZ t := rfl
theorem utfZ_two (p q : List Int) : utfZ (p ++ q) = utfZ p ++ utfZ q := by simp [utfZ]

/-- Which text is ahead: told where they part. -/
theorem less_end (a b : List Int) (k : Nat) (ha : k = a.length) (hb : k < b.length) (h : a.take k = b.take k) : Op.bytesLess (strOfNums (utfZ a)).toList (strOfNums (utfZ b)).toList = true := by
  rw [str_less]
  have e : b = a ++ b.drop k := by
    rw [← List.take_append_drop k b, ← h, ha, List.take_of_length_le (Nat.le_refl _)]
    simp
  obtain ⟨y, t, hy⟩ : ∃ y t, b.drop k = y :: t := by
    cases hd : b.drop k with
    | nil =>
      have := congrArg List.length hd
      rw [List.length_drop, List.length_nil] at this
      omega
    | cons y t => exact ⟨y, t, rfl⟩
  rw [hy] at e
  rw [e, utfZ_two]
  have := (lessP_app (utfZ a) [] (utfZ (y :: t))).2 (by
    have hl := encodeRuneZ_length y
    rw [utfZ_cons]
    cases hq : encodeRuneZ y with
    | nil => rw [hq] at hl; simp at hl
    | cons z q => exact trivial)
  simpa using this
theorem less_not (a b : List Int) (h : lessP (utfZ b) (utfZ a) ∨ a = b) : Op.bytesLess (strOfNums (utfZ a)).toList (strOfNums (utfZ b)).toList = false := by
  cases hh : Op.bytesLess (strOfNums (utfZ a)).toList (strOfNums (utfZ b)).toList with
  | false => rfl
  | true =>
    rw [str_less] at hh
    rcases h with h | rfl
    · exact absurd h (lessP_asymm _ _ hh)
    · exact absurd hh (lessP_asymm _ _ hh)
theorem less_end_not (a b : List Int) (k : Nat) (hb : k = b.length) (ha : k ≤ a.length) (h : a.take k = b.take k) : Op.bytesLess (strOfNums (utfZ a)).toList (strOfNums (utfZ b)).toList = false := by
  apply less_not
  by_cases e : k = a.length
  · right
    rw [hb, List.take_of_length_le (l := b) (Nat.le_refl _), ← hb, e, List.take_of_length_le (Nat.le_refl _)] at h
    exact h
  · left
    rw [← str_less]
    exact less_end b a k hb (by omega) h.symm
theorem part_at (a b : List Int) (k : Nat) (ha : k < a.length) (hb : k < b.length) (h : a.take k = b.take k) (hma : allMay a = true) (hmb : allMay b = true) :
    (a.getD k 0 < b.getD k 0 → Op.bytesLess (strOfNums (utfZ a)).toList (strOfNums (utfZ b)).toList = true) ∧ (b.getD k 0 < a.getD k 0 → Op.bytesLess (strOfNums (utfZ a)).toList (strOfNums (utfZ b)).toList = false) := by
  have ma := (allMay_iff a).1 hma
  have mb := (allMay_iff b).1 hmb
  have ea : a = a.take k ++ a.getD k 0 :: a.drop (k + 1) := by
    rw [show a.getD k 0 = a[k] by simp [List.getD, ha], List.getElem_cons_drop, List.take_append_drop]
  have eb : b = a.take k ++ b.getD k 0 :: b.drop (k + 1) := by
    rw [h, show b.getD k 0 = b[k] by simp [List.getD, hb], List.getElem_cons_drop, List.take_append_drop]
  have m1 : mayP (a.getD k 0) := ma _ (by simp [List.getD, ha])
  have m2 : mayP (b.getD k 0) := mb _ (by simp [List.getD, hb])
  have key : ∀ (p : List Int) (x y : Int) (t u : List Int), mayP x → mayP y → x < y → lessP (utfZ (p ++ x :: t)) (utfZ (p ++ y :: u)) := fun p x y t u hx hy hlt => by
    rw [utfZ_two, utfZ_two, lessP_app, utfZ_cons, utfZ_cons]
    exact enc_less x y hx hy hlt _ _
  constructor
  · intro hlt
    rw [str_less]
    have := key (a.take k) _ _ (a.drop (k + 1)) (b.drop (k + 1)) m1 m2 hlt
    rwa [← ea, ← eb] at this
  · intro hlt
    apply less_not
    left
    have := key (a.take k) _ _ (b.drop (k + 1)) (a.drop (k + 1)) m2 m1 hlt
    rwa [← ea, ← eb] at this

/-- How many bytes runes have, by their sizes. -/
def sz (x : Int) : Int := 1 + (if 128 ≤ x then 1 else 0) + (if 2048 ≤ x then 1 else 0) + (if 65536 ≤ x then 1 else 0)
def szs (xs : List Int) : Int := (xs.map sz).sum
theorem szs_snoc (xs : List Int) (x : Int) : szs (xs ++ [x]) = szs xs + sz x := by simp [szs]
theorem szs_take (xs : List Int) (k : Nat) (h : k < xs.length) : szs (xs.take (k + 1)) = szs (xs.take k) + sz (xs.getD k 0) := by
  rw [List.take_succ_eq_append_getElem h, szs_snoc]; simp [List.getD, h]
theorem sz_bd (x : Int) : 1 ≤ sz x ∧ sz x ≤ 4 := by
  unfold sz
  repeat' split
  all_goals omega
theorem szs_bd : ∀ xs : List Int, 0 ≤ szs xs ∧ szs xs ≤ 4 * xs.length
  | [] => by simp [szs]
  | x :: t => by
    have h := sz_bd x
    have ih := szs_bd t
    simp only [szs, List.map_cons, List.sum_cons, List.length_cons] at ih ⊢
    omega
theorem szs_utfZ : ∀ xs : List Int, allMay xs = true → ((utfZ xs).length : Int) = szs xs
  | [], _ => rfl
  | x :: t, h => by
    have hm := (allMay_iff _).1 h
    have ih := szs_utfZ t ((allMay_iff _).2 fun y hy => hm y (by simp [hy]))
    have e := encLen x (hm x (by simp))
    have : sz x = ((encodeRuneZ x).length : Int) := by
      unfold sz
      repeat' split
      all_goals omega
    rw [utfZ_cons, List.length_append]
    simp only [szs, List.map_cons, List.sum_cons] at ih ⊢
    omega
end Go.Proofs.Ytkacgfoglfoaiaa
