
import Derived.Test.YtgckofoaiojocaaYM2
namespace Go.Proofs.Ytgckofoaiojocaa
set_option linter.unusedVariables false

theorem dbl_least : Ieee.double.leastPlace = -1074 := by decide
theorem dbl_frac : Ieee.double.fractionBits = 52 := rfl

/-- A rung's magnitude, in units of the least one. -/
def rungV (r : Nat) : Nat := if r < 4503599627370496 then r else (4503599627370496 + r % 4503599627370496) * 2 ^ (r / 4503599627370496 - 1)
theorem rungV_mono {r q : Nat} (h : r ≤ q) : rungV r ≤ rungV q := by
  unfold rungV
  by_cases h1 : r < 4503599627370496
  · rw [if_pos h1]
    by_cases h2 : q < 4503599627370496
    · rw [if_pos h2]; exact h
    · rw [if_neg h2]
      have hp : 0 < 2 ^ (q / 4503599627370496 - 1) := Nat.two_pow_pos _
      calc r ≤ (4503599627370496 + q % 4503599627370496) * 1 := by omega
        _ ≤ _ := Nat.mul_le_mul_left _ hp
  · rw [if_neg h1, if_neg (by omega)]
    by_cases h2 : r / 4503599627370496 = q / 4503599627370496
    · rw [h2]
      refine Nat.mul_le_mul_right _ ?_
      omega
    · have h3 : r / 4503599627370496 < q / 4503599627370496 := by
        have := Nat.div_le_div_right (c := 4503599627370496) h
        omega
      have h4 : 1 ≤ r / 4503599627370496 := by omega
      have e1 : 2 ^ (r / 4503599627370496 - 1) * 2 = 2 ^ (r / 4503599627370496) := by
        rw [← Nat.pow_succ]; congr 1; omega
      have e2 : 2 ^ (r / 4503599627370496) ≤ 2 ^ (q / 4503599627370496 - 1) := Nat.pow_le_pow_right (by decide) (by omega)
      have a1 : (4503599627370496 + r % 4503599627370496) * 2 ^ (r / 4503599627370496 - 1) ≤ (4503599627370496 * 2) * 2 ^ (r / 4503599627370496 - 1) := Nat.mul_le_mul_right _ (by omega)
      have a2 : (4503599627370496 * 2) * 2 ^ (r / 4503599627370496 - 1) = 4503599627370496 * 2 ^ (r / 4503599627370496) := by rw [← e1, Nat.mul_assoc, Nat.mul_comm 2]
      have a3 : 4503599627370496 * 2 ^ (r / 4503599627370496) ≤ 4503599627370496 * 2 ^ (q / 4503599627370496 - 1) := Nat.mul_le_mul_left _ e2
      have a4 : 4503599627370496 * 2 ^ (q / 4503599627370496 - 1) ≤ (4503599627370496 + q % 4503599627370496) * 2 ^ (q / 4503599627370496 - 1) := Nat.mul_le_mul_right _ (by omega)
      omega

/-- A word, read: a number of its rung's magnitude, an infinity, or none. -/
theorem read_cases (x : Nat) (hx : x < 18446744073709551616) :
    (∃ m i, Ieee.double.read x = .number (decide (9223372036854775808 ≤ x)) m i ∧ -1074 ≤ i ∧ m * 2 ^ (i + 1074).toNat = rungV (x % 9223372036854775808) ∧ x % 9223372036854775808 < 9218868437227405312) ∨
    (Ieee.double.read x = .infinity (decide (9223372036854775808 ≤ x)) ∧ x % 9223372036854775808 = 9218868437227405312) ∨
    (∃ s t, Ieee.double.read x = .nan s t ∧ 9218868437227405312 < x % 9223372036854775808) := by
  have hs : (x / 9223372036854775808 % 2 == 1) = decide (9223372036854775808 ≤ x) := by
    rw [Bool.eq_iff_iff]; simp; omega
  unfold Ieee.Format.read
  simp only [dbl_sw, dbl_inf, dbl_bin, dbl_least, hs]
  generalize x % 9223372036854775808 = r
  by_cases h1 : r < 4503599627370496
  · rw [if_pos h1]
    exact .inl ⟨_, _, rfl, by omega, by unfold rungV; rw [if_pos h1]; simp, by omega⟩
  · rw [if_neg h1]
    by_cases h2 : r < 9218868437227405312
    · rw [if_pos h2]
      refine .inl ⟨_, _, rfl, by omega, ?_, h2⟩
      unfold rungV
      rw [if_neg h1]
      congr 2
      omega
    · rw [if_neg h2]
      by_cases h3 : r = 9218868437227405312
      · rw [if_pos h3]; exact .inr (.inl ⟨rfl, h3⟩)
      · rw [if_neg h3]; exact .inr (.inr ⟨_, _, rfl, by omega⟩)

theorem signed_scale (s : Bool) (m u d : Nat) : Ieee.signed s m u * ((2 ^ d : Nat) : Int) = Ieee.signed s m (u + d) := by
  unfold Ieee.signed
  simp only [Nat.shiftLeft_eq, Nat.pow_add]
  cases s
  · simp only [Bool.false_eq_true, if_false]
    rw [← Int.natCast_mul, Nat.mul_assoc]
  · simp only [if_true]
    rw [Int.neg_mul, ← Int.natCast_mul, Nat.mul_assoc]
theorem signed_val (s : Bool) (m u : Nat) : Ieee.signed s m u = if s then -((m * 2 ^ u : Nat) : Int) else ((m * 2 ^ u : Nat) : Int) := by
  unfold Ieee.signed; rw [Nat.shiftLeft_eq]
theorem signed_lt {s t : Bool} {m n : Nat} {i j : Int} (hi : -1074 ≤ i) (hj : -1074 ≤ j) (h : Ieee.signed s m (i - min i j).toNat < Ieee.signed t n (j - min i j).toNat) :
    Ieee.signed s m (i + 1074).toNat < Ieee.signed t n (j + 1074).toNat := by
  have e1 := signed_scale s m (i - min i j).toNat (min i j + 1074).toNat
  have e2 := signed_scale t n (j - min i j).toNat (min i j + 1074).toNat
  have a1 : (i - min i j).toNat + (min i j + 1074).toNat = (i + 1074).toNat := by omega
  have a2 : (j - min i j).toNat + (min i j + 1074).toNat = (j + 1074).toNat := by omega
  rw [a1] at e1
  rw [a2] at e2
  rw [← e1, ← e2]
  exact Int.mul_lt_mul_of_pos_right h (Int.natCast_pos.2 (Nat.two_pow_pos _))

theorem lt_of_compare {a b : Int} (h : compare a b = .lt) : a < b := by
  exact Int.compare_eq_lt.1 h
theorem lt_of_compareN {a b : Nat} (h : compare a b = .lt) : a < b := by
  exact Nat.compare_eq_lt.1 h

/-- Of two floats the one that is less stands at the lower rank. -/
theorem order_rank (x y : Nat) (hx : x < 18446744073709551616) (hy : y < 18446744073709551616) (h : (FloatKind.f64.format.order x y == some .lt) = true) : rankI x < rankI y := by
  have h' : (Ieee.double.read x).order (Ieee.double.read y) = some .lt := by simpa [FloatKind.format, Ieee.Format.order] using h
  clear h
  unfold rankI
  rcases read_cases x hx with ⟨m, i, e1, hi, hv, hr⟩ | ⟨e1, hr⟩ | ⟨s, t, e1, hr⟩
  · rcases read_cases y hy with ⟨n, j, e2, hj, hv2, hr2⟩ | ⟨e2, hr2⟩ | ⟨s2, t2, e2, hr2⟩
    · rw [e1, e2] at h'
      simp only [Ieee.Datum.order, Option.some.injEq] at h'
      have hlt := signed_lt hi hj (lt_of_compare h')
      rw [signed_val, signed_val, hv, hv2] at hlt
      have p0 : (0 : Int) ≤ (rungV (x % 9223372036854775808) : Int) := Int.natCast_nonneg _
      have p1 : (0 : Int) ≤ (rungV (y % 9223372036854775808) : Int) := Int.natCast_nonneg _
      have mono1 : x % 9223372036854775808 ≤ y % 9223372036854775808 → (rungV (x % 9223372036854775808) : Int) ≤ (rungV (y % 9223372036854775808) : Int) := fun h => Int.ofNat_le.2 (rungV_mono h)
      have mono2 : y % 9223372036854775808 ≤ x % 9223372036854775808 → (rungV (y % 9223372036854775808) : Int) ≤ (rungV (x % 9223372036854775808) : Int) := fun h => Int.ofNat_le.2 (rungV_mono h)
      generalize (rungV (x % 9223372036854775808) : Int) = A at *
      generalize (rungV (y % 9223372036854775808) : Int) = B at *
      clear hv hv2 h' e1 e2
      by_cases hxs : 9223372036854775808 ≤ x
      · rw [decide_eq_true hxs, if_pos rfl] at hlt
        by_cases hys : 9223372036854775808 ≤ y
        · rw [decide_eq_true hys, if_pos rfl] at hlt
          rw [if_pos (by omega), if_pos (by omega)]
          by_cases hle : x ≤ y
          · have := mono1 (by omega)
            omega
          · omega
        · rw [decide_eq_false hys] at hlt
          rw [if_pos (by omega), if_neg (by omega)]
          omega
      · rw [decide_eq_false hxs] at hlt
        by_cases hys : 9223372036854775808 ≤ y
        · rw [decide_eq_true hys, if_pos rfl] at hlt
          simp at hlt
          omega
        · rw [decide_eq_false hys] at hlt
          simp at hlt
          rw [if_neg (by omega), if_neg (by omega)]
          by_cases hle : y ≤ x
          · have := mono2 (by omega)
            omega
          · omega
    · rw [e1, e2] at h'
      simp only [Ieee.Datum.order, Option.some.injEq] at h'
      by_cases hys : 9223372036854775808 ≤ y
      · simp [hys] at h'
      · split <;> split <;> omega
    · rw [e1, e2] at h'; simp [Ieee.Datum.order] at h'
  · rcases read_cases y hy with ⟨n, j, e2, hj, hv2, hr2⟩ | ⟨e2, hr2⟩ | ⟨s2, t2, e2, hr2⟩
    · rw [e1, e2] at h'
      simp only [Ieee.Datum.order, Option.some.injEq] at h'
      by_cases hxs : 9223372036854775808 ≤ x
      · split <;> split <;> omega
      · simp [hxs] at h'
    · rw [e1, e2] at h'
      simp only [Ieee.Datum.order, Option.some.injEq] at h'
      have hlt := lt_of_compareN h'
      by_cases hxs : 9223372036854775808 ≤ x <;> by_cases hys : 9223372036854775808 ≤ y <;> simp [hxs, hys] at hlt ⊢
      omega
    · rw [e1, e2] at h'; simp [Ieee.Datum.order] at h'
  · rw [e1] at h'; simp [Ieee.Datum.order] at h'
end Go.Proofs.Ytgckofoaiojocaa
