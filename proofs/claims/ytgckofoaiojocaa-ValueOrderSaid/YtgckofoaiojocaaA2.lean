
import Derived.Test.YtgckofoaiojocaaK
namespace Go.Proofs.Ytgckofoaiojocaa
open Go.RowKit
set_option linter.unusedVariables false

def nl (xs : List Int) : Int := (xs.filter (· == 10)).length
theorem nl_le (xs : List Int) : 0 ≤ nl xs ∧ nl xs ≤ xs.length := by
  unfold nl
  have := List.length_filter_le (fun x : Int => x == 10) xs
  omega
theorem nl_snoc (xs : List Int) (x : Int) : nl (xs ++ [x]) = nl xs + if x = 10 then 1 else 0 := by
  unfold nl
  rw [List.filter_append]
  by_cases h : x = 10 <;> simp [h]
theorem nl_take (xs : List Int) (j : Nat) (h : j < xs.length) : nl (xs.take (j + 1)) = nl (xs.take j) + if xs.getD j 0 = 10 then 1 else 0 := by
  rw [take_snoc xs j h, nl_snoc]

end Go.Proofs.Ytgckofoaiojocaa
