
import Derived.Test.YtiobcifpebehnaaDoorA4
import Derived.RegionTactic
/- A5: a set searched by halves -/
namespace Go.Proofs.YtiobcifpebehnaaDoor
open Go.RowKit
set_option linter.unusedVariables false

/-- What Search answers: a place at which what is asked turns from false to true. -/
def Turn (p : Nat → Bool) (n i : Nat) : Prop := i ≤ n ∧ (i < n → p i = true) ∧ (0 < i → p (i - 1) = false)

end Go.Proofs.YtiobcifpebehnaaDoor
