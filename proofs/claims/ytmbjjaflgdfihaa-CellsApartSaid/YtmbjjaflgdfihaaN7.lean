
import Derived.Test.YtmbjjaflgdfihaaN6
/- N7: the reference's Same -/
namespace Go.Proofs.Ytmbjjaflgdfihaa
open Go.RowKit
set_option linter.unusedVariables false
set_option maxRecDepth 100000

theorem opn_no1 {y z : Oz} (h : ¬ y.k = z.k) : ¬ y.o = z.o := fun e => h (opn_eq.1 e).1
theorem opn_no2 {y z : Oz} (h : ¬ y.n = z.n) : ¬ y.o = z.o := fun e => h (opn_eq.1 e).2.1
theorem opn_no3 {y z : Oz} (h : ¬ y.rs = z.rs) : ¬ y.o = z.o := fun e => h (opn_eq.1 e).2.2.1
theorem opn_no4 {y z : Oz} (h : ¬ y.st = z.st) : ¬ y.o = z.o := fun e => h (opn_eq.1 e).2.2.2.1
theorem opn_no5 {y z : Oz} (h : ¬ y.pt = z.pt) : ¬ y.o = z.o := fun e => h (opn_eq.1 e).2.2.2.2
theorem isame_f (b : Bool) (v1 v2 : Value) (xs ys : List Int) (h : decide (xs = ys) = b) (w : World) (hv1 : Ints .i32 w v1 xs) (hv2 : Ints .i32 w v2 ys) :
    Calls Try.prog 11 #[v1, v2] w fun e w' => e = .returned (.bool b) ∧ Below w.heap.size w w' := by subst h; exact isame_b v1 v2 xs ys w hv1 hv2
end Go.Proofs.Ytmbjjaflgdfihaa
