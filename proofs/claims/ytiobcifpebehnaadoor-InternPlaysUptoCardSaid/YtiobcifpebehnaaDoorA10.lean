
import Derived.Test.YtiobcifpebehnaaDoorA9
/- A10: With, Without, Copy -/
namespace Go.Proofs.YtiobcifpebehnaaDoor
open Go.RowKit
set_option linter.unusedVariables false

def with5 (xs : List Att) (a : Att) : List Att := lo5 xs a.key ++ a :: hi5 xs a.key
def without5 (xs : List Att) (key : Int) : List Att := lo5 xs key ++ hi5 xs key
/-- A set of the call's own that reads as ys. -/
def Own5 (w0 w : World) (u : Value) (ys : List Att) : Prop := w.ownsRow w0.heap.size 47 5 u ys.length (fl attC ys)
theorem Own5.row {w0 w : World} {u : Value} {ys : List Att} (h : Own5 w0 w u ys) : Arow w u ys := (Row.of_owns (C := attC) h).1

end Go.Proofs.YtiobcifpebehnaaDoor
