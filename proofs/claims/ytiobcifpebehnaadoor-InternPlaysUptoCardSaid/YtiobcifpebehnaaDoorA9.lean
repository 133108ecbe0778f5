
import Derived.Test.YtiobcifpebehnaaDoorA8
/- A9: Concat, Clone, Copy -/
namespace Go.Proofs.YtiobcifpebehnaaDoor
open Go.RowKit
set_option linter.unusedVariables false

@[reducible] def slV (x : Option Addr × Nat × Nat) : Value := .slice x.1 x.2.1 x.2.2
theorem flat_snoc (xss : List (List Att)) (k : Nat) (h : k < xss.length) : (xss.take (k + 1)).flatten = (xss.take k).flatten ++ xss[k] := by
  rw [List.take_succ_eq_append_getElem h, List.flatten_append]; simp only [List.flatten_cons, List.flatten_nil, List.append_nil]
theorem flat_le (xss : List (List Att)) (k : Nat) : (xss.take k).flatten.length ≤ xss.flatten.length := by
  conv => rhs; rw [← List.take_append_drop k xss]
  rw [List.flatten_append, List.length_append]; omega
theorem flat_all (xss : List (List Att)) : (xss.take xss.length).flatten = xss.flatten := by rw [List.take_of_length_le (Nat.le_refl _)]
/-- What a list of rows holds. -/
def Rows5 (w : World) (ss : List (Option Addr × Nat × Nat)) (xss : List (List Att)) : Prop :=
  ss.length = xss.length ∧ ∀ j (h1 : j < ss.length) (h2 : j < xss.length), Arow w (slV ss[j]) xss[j]
theorem Rows5.below {B : Nat} {w w' : World} {ss : List (Option Addr × Nat × Nat)} {xss : List (List Att)} (h : Rows5 w ss xss) (hb : Below B w w') (hB : w.heap.size ≤ B) : Rows5 w' ss xss :=
  ⟨h.1, fun j h1 h2 => (h.2 j h1 h2).below hb hB⟩
/-- Concat's second loop: k rows are in. -/
def CatRel (w : World) (xss : List (List Att)) (k : Nat) (v : Value) (wr : World) : Prop :=
  wr.ownsRow w.heap.size 47 5 v (xss.take k).flatten.length (fl attC (xss.take k).flatten) ∧ Below w.heap.size w wr

end Go.Proofs.YtiobcifpebehnaaDoor
