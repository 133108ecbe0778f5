
import Derived.Test.YthbehjilabedoaaA33
import Derived.Test.YthbehjilabedoaaA30
/- A34: AttrsSets -/
namespace Go.Proofs.Ythbehjilabedoaa
open Go.RowKit
set_option linter.unusedVariables false

theorem sets_walk (v : Value) (ks : List Key) (u1 u2 : Value) (xs ys : List Att) (a : Att) (w : World) (hv : Krow w v ks) (hK : ∀ k ∈ ks, KeyW k) (h1 : Arow w u1 xs) (h2 : Arow w u2 ys) (hX : ∀ b ∈ xs, AttW b) (ha : AttW a) :
    Calls Try.prog 3 #[v, u1, u2, av a] w fun e w' => e = .returned (.bool true) ∧ Below w.heap.size w w' := by
  obtain ⟨kb, kcap, rfl⟩ := hv.shape
  by_cases hn : ks.length ≤ 64 ∧ ¬ great5 xs ∧ ¬ great5 ys ∧ a.s.size ≤ 200 ∧ mayKs ks
  · obtain ⟨q0, q1, q2, q3, q4⟩ := hn
    obtain ⟨xb, xcap, rfl⟩ := h1.shape
    by_cases hr : Rise xs
    · exact sets_main kb kcap ks xb xcap u2 xs ys a w hv hK h1 h2 hX ha q1 q2 q3 q4 hr
    · exact sets_free kb kcap ks xb xcap u2 xs ys a w hv hK h1 h2 hX ha q1 q2 q3 q4 hr
  · exact sets_early kb kcap ks u1 u2 xs ys a w hv hK h1 h2 hn
end Go.Proofs.Ythbehjilabedoaa
