
import Derived.Test.YtgckofoaiojocaaYM3
import Derived.Laws.FloatArith
namespace Go.Proofs.Ytgckofoaiojocaa
set_option linter.unusedVariables false

/-- Division, rounded to the nearest whole number, to the even one of two. -/
def cutE (n g : Nat) : Nat := n / g + (if g < 2 * (n % g) ∨ (g = 2 * (n % g) ∧ n / g % 2 = 1) then 1 else 0)
theorem cut_even (neg : Bool) (n drop : Nat) (h : drop ≤ n.log2 + 2) : Ieee.Toward.even.cut neg n drop = cutE n (2 ^ drop) := by
  unfold Ieee.Toward.cut cutE
  simp only [Nat.min_eq_left h, Nat.shiftLeft_eq, Nat.one_mul]
  congr 1
  by_cases h1 : 2 ^ drop < 2 * (n % 2 ^ drop)
  · simp [h1]
  · by_cases h2 : 2 ^ drop = 2 * (n % 2 ^ drop)
    · by_cases h3 : n / 2 ^ drop % 2 = 1
      · simp [h3, ← h2]
      · have h4 : n / 2 ^ drop % 2 = 0 := by omega
        simp [h3, ← h2]
    · simp [h1, h2]
theorem cutE_le (n g : Nat) : n / g ≤ cutE n g ∧ cutE n g ≤ n / g + 1 := by
  unfold cutE; split <;> omega
theorem cutE_mono {n m g : Nat} (h : n ≤ m) : cutE n g ≤ cutE m g := by
  by_cases hd : n / g = m / g
  · have hr : n % g ≤ m % g := by
      have e1 := Nat.div_add_mod n g
      have e2 := Nat.div_add_mod m g
      rw [hd] at e1
      omega
    unfold cutE
    rw [hd]
    split
    · rename_i hc
      rw [if_pos]
      · exact Nat.le_refl _
      · omega
    · omega
  · have hl : n / g < m / g := by
      have := Nat.div_le_div_right (c := g) h
      omega
    have := (cutE_le n g).2
    have := (cutE_le m g).1
    omega
theorem cutE_one (n : Nat) : cutE n 1 = n := by
  unfold cutE; simp [Nat.mod_one]

/-- The rung of a whole number above nought. -/
def keptN (m : Nat) : Nat := if m.log2 ≤ 52 then m * 2 ^ (52 - m.log2) else cutE m (2 ^ (m.log2 - 52))
def rungN (m : Nat) : Nat := (m.log2 + 1022) * 4503599627370496 + keptN m
theorem rungN_eq (m : Nat) : rungN m = (m.log2 + 1022) * 4503599627370496 + keptN m := by unfold rungN; with_reducible rfl
theorem kept_bounds {m : Nat} (hm : m ≠ 0) : 4503599627370496 ≤ keptN m ∧ keptN m ≤ 9007199254740992 := by
  have h1 := Nat.log2_self_le hm
  have h2 := Nat.lt_log2_self (n := m)
  unfold keptN
  split
  · rename_i hl
    have e : 2 ^ m.log2 * 2 ^ (52 - m.log2) = 4503599627370496 := by rw [← Nat.pow_add, show m.log2 + (52 - m.log2) = 52 by omega]
    have e' : 2 ^ (m.log2 + 1) * 2 ^ (52 - m.log2) = 9007199254740992 := by rw [← Nat.pow_add, show m.log2 + 1 + (52 - m.log2) = 53 by omega]
    have a := Nat.mul_le_mul_right (2 ^ (52 - m.log2)) h1
    have b := Nat.mul_le_mul_right (2 ^ (52 - m.log2)) (Nat.le_of_lt h2)
    omega
  · rename_i hl
    have e : 4503599627370496 * 2 ^ (m.log2 - 52) = 2 ^ m.log2 := by
      rw [show (4503599627370496 : Nat) = 2 ^ 52 by decide, ← Nat.pow_add, show 52 + (m.log2 - 52) = m.log2 by omega]
    have e' : 9007199254740992 * 2 ^ (m.log2 - 52) = 2 ^ (m.log2 + 1) := by
      rw [show (9007199254740992 : Nat) = 2 ^ 53 by decide, ← Nat.pow_add, show 53 + (m.log2 - 52) = m.log2 + 1 by omega]
    have hp : 0 < 2 ^ (m.log2 - 52) := Nat.two_pow_pos _
    have a : 4503599627370496 ≤ m / 2 ^ (m.log2 - 52) := (Nat.le_div_iff_mul_le hp).2 (by omega)
    have b : m / 2 ^ (m.log2 - 52) < 9007199254740992 := (Nat.div_lt_iff_lt_mul hp).2 (by omega)
    have c := cutE_le m (2 ^ (m.log2 - 52))
    omega
theorem log2_mono {m n : Nat} (hm : m ≠ 0) (h : m ≤ n) : m.log2 ≤ n.log2 := by
  have h1 := Nat.log2_self_le hm
  exact (Nat.le_log2 (by omega)).2 (by omega)
theorem rung_step {u v a b : Nat} (h1 : u + 4503599627370496 ≤ v) (h2 : a ≤ 9007199254740992) (h3 : 4503599627370496 ≤ b) : u + a ≤ v + b := by omega
theorem rungN_mono {m n : Nat} (hm : m ≠ 0) (h : m ≤ n) : rungN m ≤ rungN n := by
  have hl := log2_mono hm h
  have b1 := kept_bounds hm
  have b2 := kept_bounds (m := n) (by omega)
  unfold rungN
  by_cases he : m.log2 = n.log2
  · have hk : keptN m ≤ keptN n := by
      unfold keptN
      rw [he]
      split
      · exact Nat.mul_le_mul_right _ h
      · exact cutE_mono h
    rw [he]
    omega
  · have h1 : (m.log2 + 1022 + 1) * 4503599627370496 ≤ (n.log2 + 1022) * 4503599627370496 := Nat.mul_le_mul_right _ (by omega)
    rw [Nat.add_mul (m.log2 + 1022), Nat.one_mul] at h1
    exact rung_step h1 b1.2 b2.1
/-- The rung, infinity's at most. -/
def capN (a : Nat) : Nat := min a 9218868437227405312
theorem capN_le (a : Nat) : capN a ≤ 9218868437227405312 := Nat.min_le_right _ _
theorem capN_mono {a b : Nat} (h : a ≤ b) : capN a ≤ capN b := by unfold capN; omega
theorem capN_id {a : Nat} (h : a ≤ 9218868437227405312) : capN a = a := Nat.min_eq_left h
theorem nearest_pos (neg : Bool) {m : Nat} (hm : m ≠ 0) : Ieee.double.nearest neg m 0 = Ieee.double.word neg (capN (rungN m)) := by
  have hlast : max (0 + (m.log2 : Int) - ((52 : Nat) : Int)) (-1074) = (m.log2 : Int) - 52 := by omega
  have e3 : ((m.log2 : Int) - 52 - (-1074)).toNat = m.log2 + 1022 := by omega
  have hk : Ieee.Toward.even.cut neg (m <<< (0 - ((m.log2 : Int) - 52)).toNat) ((m.log2 : Int) - 52 - 0).toNat = keptN m := by
    unfold keptN
    split
    · rename_i hl
      rw [show ((m.log2 : Int) - 52 - 0).toNat = 0 by omega, show (0 - ((m.log2 : Int) - 52)).toNat = 52 - m.log2 by omega, cut_even _ _ _ (by omega), Nat.pow_zero, cutE_one, Nat.shiftLeft_eq]
    · rename_i hl
      rw [show ((m.log2 : Int) - 52 - 0).toNat = m.log2 - 52 by omega, show (0 - ((m.log2 : Int) - 52)).toNat = 0 by omega, Nat.shiftLeft_zero, cut_even _ _ _ (by omega)]
  have hr : ((m.log2 : Int) - 52 - (-1074)).toNat * 4503599627370496 + keptN m = rungN m := by
    rw [rungN_eq, e3]
  unfold Ieee.Format.nearest
  rw [if_neg hm]
  simp only [dbl_least, dbl_frac, dbl_inf, dbl_bin]
  rw [hlast, hk, hr]
  rfl
theorem word_pos (r : Nat) : Ieee.double.word false r = r := by unfold Ieee.Format.word; rw [if_neg (by decide)]
theorem word_neg (r : Nat) : Ieee.double.word true r = 9223372036854775808 + r := by unfold Ieee.Format.word; rw [if_pos rfl, dbl_sw]
theorem fl_zero : floatOfInt .f64 0 = 0 := by decide
theorem fl_pos {n : Int} (h : 0 < n) : floatOfInt .f64 n = capN (rungN n.toNat) := by
  have e : floatOfInt .f64 n = Ieee.double.nearest (decide (n < 0)) n.natAbs 0 := rfl
  rw [e, nearest_pos _ (by omega), decide_eq_false (by omega), show n.natAbs = n.toNat by omega, word_pos]
theorem fl_neg {n : Int} (h : n < 0) : floatOfInt .f64 n = 9223372036854775808 + capN (rungN (-n).toNat) := by
  have e : floatOfInt .f64 n = Ieee.double.nearest (decide (n < 0)) n.natAbs 0 := rfl
  rw [e, nearest_pos _ (by omega), decide_eq_true h, show n.natAbs = (-n).toNat by omega, word_neg]
theorem fl_lt (n : Int) : floatOfInt .f64 n < 18446744073709551616 := by
  rcases Int.lt_trichotomy n 0 with h | h | h
  · rw [fl_neg h]
    have := capN_le (rungN (-n).toNat)
    generalize capN (rungN (-n).toNat) = c at *
    omega
  · subst h; rw [fl_zero]; decide
  · rw [fl_pos h]
    have := capN_le (rungN n.toNat)
    generalize capN (rungN n.toNat) = c at *
    omega
theorem rk_pos {c : Nat} (h : c ≤ 9218868437227405312) : rankI (c : Int) = (c : Int) + 9223372036854775808 := by
  unfold rankI; rw [if_neg (by omega)]
theorem rk_neg {c : Nat} (h : c ≤ 9218868437227405312) : rankI ((9223372036854775808 + c : Nat) : Int) = 9223372036854775807 - (c : Int) := by
  unfold rankI; rw [if_pos (by omega)]; omega
theorem rkf_pos {n : Int} (h : 0 < n) : rankI (floatOfInt .f64 n) = (capN (rungN n.toNat) : Int) + 9223372036854775808 := by
  rw [fl_pos h, rk_pos (capN_le _)]
theorem rkf_neg {n : Int} (h : n < 0) : rankI (floatOfInt .f64 n) = 9223372036854775807 - (capN (rungN (-n).toNat) : Int) := by
  rw [fl_neg h, rk_neg (capN_le _)]
theorem rkf_zero : rankI (floatOfInt .f64 0) = 9223372036854775808 := by rw [fl_zero]; decide
/-- Of two whole numbers the one that is not above has the float that is not above. -/
theorem fl_mono {n m : Int} (h : n ≤ m) : rankI (floatOfInt .f64 n) ≤ rankI (floatOfInt .f64 m) := by
  rcases Int.lt_trichotomy n 0 with hn | hn | hn
  · rw [rkf_neg hn]
    rcases Int.lt_trichotomy m 0 with hm | hm | hm
    · rw [rkf_neg hm]
      have h1 := capN_mono (rungN_mono (m := (-m).toNat) (n := (-n).toNat) (by omega) (by omega))
      generalize capN (rungN (-m).toNat) = a at *
      generalize capN (rungN (-n).toNat) = b at *
      omega
    · subst hm; rw [rkf_zero]
      generalize capN (rungN (-n).toNat) = b at *
      omega
    · rw [rkf_pos hm]
      generalize capN (rungN (-n).toNat) = b at *
      generalize capN (rungN m.toNat) = a at *
      omega
  · subst hn
    rw [rkf_zero]
    rcases Int.lt_trichotomy m 0 with hm | hm | hm
    · omega
    · subst hm; rw [rkf_zero]; exact Int.le_refl _
    · rw [rkf_pos hm]
      generalize capN (rungN m.toNat) = a at *
      omega
  · rw [rkf_pos hn, rkf_pos (n := m) (by omega)]
    have h1 := capN_mono (rungN_mono (m := n.toNat) (n := m.toNat) (by omega) (by omega))
    generalize capN (rungN m.toNat) = a at *
    generalize capN (rungN n.toNat) = b at *
    omega

theorem cut_zero (neg : Bool) (n drop : Nat) (h : drop ≤ n.log2 + 2) : Ieee.Toward.zero.cut neg n drop = n / 2 ^ drop := by
  unfold Ieee.Toward.cut
  simp only [Nat.min_eq_left h, Nat.shiftLeft_eq, Nat.one_mul]
  rfl
set_option maxRecDepth 20000 in
theorem back_read (neg : Bool) (L k : Nat) (hL : L ≤ 52) (h1 : 4503599627370496 ≤ k) (h2 : k < 9007199254740992) :
    Ieee.double.read (Ieee.double.word neg ((L + 1022) * 4503599627370496 + k)) = .number neg k ((L : Int) - 52) := by
  have hw : ∀ r : Nat, r < 9223372036854775808 → Ieee.double.word neg r % 9223372036854775808 = r ∧ (Ieee.double.word neg r / 9223372036854775808 % 2 == 1) = neg := by
    intro r hr
    cases neg
    · rw [word_pos]
      exact ⟨by omega, by simp; omega⟩
    · rw [word_neg]
      exact ⟨by omega, by simp; omega⟩
  obtain ⟨r, hr⟩ : ∃ r, (L + 1022) * 4503599627370496 + k = r := ⟨_, rfl⟩
  rw [hr]
  have hb : r < 9218868437227405312 ∧ 4503599627370496 ≤ r := by omega
  obtain ⟨w1, w2⟩ := hw r (by omega)
  have d1 : 4503599627370496 + r % 4503599627370496 = k := by omega
  have d2 : (-1074 : Int) + ((r / 4503599627370496 - 1 : Nat) : Int) = (L : Int) - 52 := by omega
  unfold Ieee.Format.read
  simp only [dbl_sw, dbl_inf, dbl_bin, dbl_least, w1, w2]
  rw [if_neg (by omega), if_pos hb.1, d1, d2]
set_option maxRecDepth 20000 in
theorem back_int (neg : Bool) (m : Nat) (hm : m ≠ 0) (hlt : m < 9007199254740992) : (Ieee.double.read (Ieee.double.word neg (capN (rungN m)))).toInt .zero = some (Ieee.signed neg m 0) := by
  have hl : m.log2 ≤ 52 := by
    have := (Nat.log2_lt hm (k := 53)).2 (by omega)
    omega
  have hb := kept_bounds hm
  have hk : keptN m = m * 2 ^ (52 - m.log2) := by unfold keptN; rw [if_pos hl]
  have hk2 : keptN m < 9007199254740992 := by
    rw [hk]
    have h2 := Nat.lt_log2_self (n := m)
    have e' : 2 ^ (m.log2 + 1) * 2 ^ (52 - m.log2) = 9007199254740992 := by rw [← Nat.pow_add, show m.log2 + 1 + (52 - m.log2) = 53 by omega]
    have b := Nat.mul_lt_mul_of_pos_right h2 (Nat.two_pow_pos (52 - m.log2))
    omega
  have hr := rungN_eq m
  have hcap : (m.log2 + 1022) * 4503599627370496 + keptN m ≤ 9218868437227405312 := by
    clear hk hb hr
    generalize keptN m = c at *
    generalize m.log2 = l at *
    omega
  have hmin : capN (rungN m) = rungN m := capN_id (by rw [hr]; exact hcap)
  rw [hmin, hr, back_read neg m.log2 (keptN m) hl hb.1 hk2]
  have hlog : 52 - m.log2 ≤ (keptN m).log2 + 2 := by
    have h1 := log2_mono (m := 4503599627370496) (n := keptN m) (by decide) hb.1
    have h2 : (4503599627370496 : Nat).log2 = 52 := by decide
    omega
  have hc : Ieee.Toward.zero.cut neg (keptN m) (52 - m.log2) = m := by
    rw [cut_zero _ _ _ hlog, hk, Nat.mul_div_cancel _ (Nat.two_pow_pos _)]
  unfold Ieee.Datum.toInt Ieee.Datum.integral
  simp only [show ((m.log2 : Int) - 52).toNat = 0 by omega, show (-((m.log2 : Int) - 52)).toNat = 52 - m.log2 by omega, Nat.shiftLeft_zero, hc]
theorem signed_zero (m : Nat) : Ieee.signed false m 0 = (m : Int) ∧ Ieee.signed true m 0 = -(m : Int) := by
  rw [signed_val, signed_val]
  exact ⟨by rw [if_neg (by decide), Nat.pow_zero, Nat.mul_one], by rw [if_pos rfl, Nat.pow_zero, Nat.mul_one]⟩
/-- A whole number below 2^53 comes back. -/
theorem fl_back {n : Int} (h1 : -9007199254740992 < n) (h2 : n < 9007199254740992) : floatToIntVal .f64 (floatOfInt .f64 n) .i64 = some n := by
  have hi : (FloatKind.f64.decode (floatOfInt .f64 n)).toInt .zero = some n := by
    rcases Int.lt_trichotomy n 0 with h | h | h
    · have h3 := back_int true (-n).toNat (by omega) (by omega)
      rw [word_neg, ← fl_neg h, (signed_zero _).2] at h3
      have e : -(((-n).toNat : Nat) : Int) = n := by omega
      rw [e] at h3
      exact h3
    · subst h; decide
    · have h3 := back_int false n.toNat (by omega) (by omega)
      rw [word_pos, ← fl_pos h, (signed_zero _).1] at h3
      have e : ((n.toNat : Nat) : Int) = n := by omega
      rw [e] at h3
      exact h3
  have m1 : IntKind.i64.min = -9223372036854775808 := by decide
  have m2 : IntKind.i64.max = 9223372036854775807 := by decide
  unfold floatToIntVal
  rw [hi]
  simp only [m1, m2]
  rw [if_pos (by omega)]
end Go.Proofs.Ytgckofoaiojocaa
