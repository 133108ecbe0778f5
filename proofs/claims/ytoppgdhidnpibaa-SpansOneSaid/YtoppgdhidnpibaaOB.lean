
import Derived.Test.YtoppgdhidnpibaaOA
/- OB: how many newlines are ahead of a place, and in all; the rune at a place -/
namespace Go.Proofs.Ytoppgdhidnpibaa
open Go.RowKit
set_option linter.unusedVariables false

/-- How many newlines a list has. -/
def nl (l : List Int) : Nat := (l.filter (· == 10)).length
theorem nl_le (l : List Int) : nl l ≤ l.length := List.length_filter_le _ _
theorem nl_app (a b : List Int) : nl (a ++ b) = nl a + nl b := by simp [nl]
theorem nl_yes {l : List Int} {k : Nat} (h : ((slots l).getD k 0 == 11) = true) : nl (l.take (k + 1)) = nl (l.take k) + 1 := by
  rw [beq_iff_eq] at h
  by_cases hk : k < l.length
  · rw [slots_in hk] at h
    have h10 : l.getD k 0 = 10 := by omega
    rw [take_snoc l k hk, h10, nl_app]
    rfl
  · rw [slots_out (by omega)] at h
    cases h
theorem nl_no {l : List Int} {k : Nat} (h : ((slots l).getD k 0 == 11) = false) : nl (l.take (k + 1)) = nl (l.take k) := by
  rw [beq_eq_false_iff_ne] at h
  by_cases hk : k < l.length
  · rw [slots_in hk] at h
    have h10 : (l.getD k 0 == 10) = false := by rw [beq_eq_false_iff_ne]; omega
    rw [take_snoc l k hk, nl_app]
    have : nl [l.getD k 0] = 0 := by
      show (List.filter (· == 10) [l.getD k 0]).length = 0
      rw [List.filter_cons, h10]
      rfl
    omega
  · rw [List.take_of_length_le (by omega), List.take_of_length_le (by omega)]
theorem nl_take_le (l : List Int) (k : Nat) : nl (l.take k) ≤ k := Nat.le_trans (nl_le _) (List.length_take_le _ _)
theorem nl_all {l : List Int} {k : Nat} (h : l.length ≤ k) : nl (l.take k) = nl l := by rw [List.take_of_length_le h]

end Go.Proofs.Ytoppgdhidnpibaa
