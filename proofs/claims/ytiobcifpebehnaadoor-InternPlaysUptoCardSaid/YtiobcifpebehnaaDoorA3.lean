
import Derived.Test.YtiobcifpebehnaaDoorA2
import Derived.BigQuiet
import Derived.Deep.QuietTactic
/- A3: sets held against one another; great; rising -/
namespace Go.Proofs.YtiobcifpebehnaaDoor
open Go.RowKit
set_option linter.unusedVariables false

theorem atake_snoc {xs : List Att} {k : Nat} (h : k < xs.length) : xs.take (k + 1) = xs.take k ++ [xs[k]] := by
  rw [List.take_succ_eq_append_getElem h]
theorem eq_step {xs ys : List Att} {k : Nat} (h1 : k < xs.length) (h2 : k < ys.length) (h : xs.take k = ys.take k) (he : xs[k] = ys[k]) : xs.take (k + 1) = ys.take (k + 1) := by
  rw [atake_snoc h1, atake_snoc h2, h, he]
theorem eq_end {xs ys : List Att} (hl : xs.length = ys.length) (h : xs.take xs.length = ys.take xs.length) : xs = ys := by
  rw [List.take_of_length_le (Nat.le_refl _), hl, List.take_of_length_le (Nat.le_refl _)] at h; exact h
theorem eq_bad {xs ys : List Att} {k : Nat} (h1 : k < xs.length) (h2 : k < ys.length) (he : ¬ xs[k] = ys[k]) : ¬ xs = ys := by
  intro h; subst h; exact he rfl
theorem dec_yes {p : Prop} [Decidable p] (h : p) : Ending.returned (.bool true) = .returned (.bool (decide p)) := by rw [decide_eq_true h]
theorem dec_no {p : Prop} [Decidable p] (h : ¬ p) : Ending.returned (.bool false) = .returned (.bool (decide p)) := by rw [decide_eq_false h]

end Go.Proofs.YtiobcifpebehnaaDoor
