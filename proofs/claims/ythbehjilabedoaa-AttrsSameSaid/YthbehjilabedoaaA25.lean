
import Derived.Test.YthbehjilabedoaaA24
/- A25: AttrsSame, whole -/
namespace Go.Proofs.Ythbehjilabedoaa
open Go.RowKit
set_option linter.unusedVariables false

theorem same_walk (u1 u2 : Value) (xs ys : List Att) (a : Att) (w : World) (h1 : Arow w u1 xs) (h2 : Arow w u2 ys) :
    Calls Try.prog 6 #[u1, u2, av a] w fun e w' => e = .returned (.bool true) ∧ Below w.heap.size w w' := by
  by_cases hn : ¬ great5 xs ∧ ¬ great5 ys ∧ Rise xs ∧ Rise ys
  · obtain ⟨g1, g2, r1, r2⟩ := hn
    obtain ⟨ub, ucap, rfl⟩ := h2.shape
    exact same_main u1 ub ucap xs ys a w h1 h2 g1 g2 r1 r2
  · exact same_early u1 u2 xs ys a w h1 h2 hn
end Go.Proofs.Ythbehjilabedoaa
