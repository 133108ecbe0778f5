
import Derived.Laws.FloatBits
import Derived.Laws.Cover2
namespace Go.Proofs.Ytgckofoaiojocaa
set_option linter.unusedVariables false

/-- Do the bits say 'no number'? -/
def nanI (f : Int) : Bool := decide (9218868437227405312 < f % 9223372036854775808)
def canonI (f : Int) : Int := if nanI f then 9221120237041090560 else f

theorem dbl_sw : Ieee.double.signWeight = 9223372036854775808 := by decide
theorem dbl_inf : Ieee.double.infRung = 9218868437227405312 := by decide
theorem dbl_bin : Ieee.double.binade = 4503599627370496 := by decide

theorem order_self (d : Ieee.Datum) : (d.order d != some .eq) = d.isNaN := by
  cases d with
  | number s m i => simp [Ieee.Datum.order, Ieee.Datum.isNaN]
  | infinity s => cases s <;> simp [Ieee.Datum.order, Ieee.Datum.isNaN]
  | nan s t => simp [Ieee.Datum.order, Ieee.Datum.isNaN]

theorem read_nan (b : Nat) : (Ieee.double.read b).isNaN = nanI (b : Int) := by
  unfold nanI Ieee.Format.read
  simp only [dbl_sw, dbl_inf, dbl_bin]
  have h : ((b : Int) % 9223372036854775808) = ((b % 9223372036854775808 : Nat) : Int) := by omega
  rw [h]
  generalize b % 9223372036854775808 = r
  split
  · simp [Ieee.Datum.isNaN]; omega
  · split
    · simp [Ieee.Datum.isNaN]; omega
    · split
      · simp [Ieee.Datum.isNaN]; omega
      · simp [Ieee.Datum.isNaN]; omega

/-- 'x != x'. -/
theorem nan_ne (b : Nat) : (FloatKind.f64.format.order b b != some .eq) = nanI (b : Int) := by
  rw [← read_nan b]; exact order_self _
theorem nan_eq (b : Nat) : (FloatKind.f64.format.order b b == some .eq) = !nanI (b : Int) := by
  rw [← nan_ne b]
  cases h : (FloatKind.f64.format.order b b == some .eq) <;> simp [bne, h]
end Go.Proofs.Ytgckofoaiojocaa
