
import Derived.Test.YtgckofoaiojocaaYM1
import Derived.Laws.BitsAllLaws
namespace Go.Proofs.Ytgckofoaiojocaa
set_option linter.unusedVariables false

theorem u64_sign (f : Int) (h0 : 0 ≤ f) (h1 : f < 18446744073709551616) : bits .and .u64 f 9223372036854775808 = f / 9223372036854775808 * 9223372036854775808 := by
  obtain ⟨a, rfl⟩ := Int.eq_ofNat_of_zero_le h0
  have h := u64_and_nat a 9223372036854775808 (by omega) (by decide)
  have h2 := nat_bit 63 a
  rw [show (2 : Nat) ^ 63 = 9223372036854775808 from by decide] at h2
  rw [h2] at h
  have h' : bits .and .u64 (a : Int) 9223372036854775808 = ((a / 9223372036854775808 % 2 * 9223372036854775808 : Nat) : Int) := h
  rw [h']
  omega
theorem u64_signed (f : Int) (h0 : 0 ≤ f) (h1 : f < 9223372036854775808) : bits .or .u64 f 9223372036854775808 = f + 9223372036854775808 := by
  obtain ⟨a, rfl⟩ := Int.eq_ofNat_of_zero_le h0
  have h := u64_or_nat a 9223372036854775808 (by omega) (by decide)
  rw [Nat.or_comm, nat_join 63 9223372036854775808 a (by decide) (by omega)] at h
  have h' : bits .or .u64 (a : Int) 9223372036854775808 = ((9223372036854775808 + a : Nat) : Int) := h
  rw [h']
  omega
theorem u64_max : IntKind.u64.max = 18446744073709551615 := by decide
theorem u64_not (f : Int) (h0 : 0 ≤ f) (h1 : f < 18446744073709551616) : bits .xor .u64 IntKind.u64.max f = 18446744073709551615 - f := by
  rw [u64_max]
  obtain ⟨a, rfl⟩ := Int.eq_ofNat_of_zero_le h0
  show IntKind.u64.wrap ((BitVec.ofInt 64 18446744073709551615 ^^^ BitVec.ofInt 64 (a : Int)).toNat : Int) = _
  have h1' : BitVec.ofInt 64 18446744073709551615 = BitVec.allOnes 64 := by decide
  rw [h1', BitVec.allOnes_xor, BitVec.toNat_not, ofInt_u64 a (by omega)]
  simp [IntKind.wrap, IntKind.bits, IntKind.signed]
  omega

/-- Where a float's bits stand: the program's rank. -/
def rankI (f : Int) : Int := if 9223372036854775808 ≤ f then 18446744073709551615 - f else f + 9223372036854775808
/-- The document's. -/
def rrankI (f : Int) : Int := if f = 9221120237041090560 then 18446744073709551615 else rankI f

/-- Bits that may be a float's. -/
def okF (f : Int) : Prop := 0 ≤ f ∧ f < 18446744073709551616 ∧ (nanI f = false ∨ f = 9221120237041090560)
theorem nanI_iff (f : Int) : nanI f = true ↔ 9218868437227405312 < f % 9223372036854775808 := by unfold nanI; rw [decide_eq_true_iff]
theorem nanI_not (f : Int) : nanI f = false ↔ f % 9223372036854775808 ≤ 9218868437227405312 := by unfold nanI; rw [decide_eq_false_iff_not]; omega
theorem rank_same (f g : Int) (hf : okF f) (hg : okF g) : (rankI f < rankI g) ↔ (rrankI f < rrankI g) := by
  obtain ⟨f0, f1, hf⟩ := hf
  obtain ⟨g0, g1, hg⟩ := hg
  rw [nanI_not] at hf hg
  unfold rrankI rankI
  split <;> split <;> split <;> split <;> omega
end Go.Proofs.Ytgckofoaiojocaa
