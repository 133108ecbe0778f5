
import Derived.Test.YtgckofoaiojocaaY13
import Derived.Test.YtgckofoaiojocaaYM4
import Derived.Test.YtgckofoaiojocaaQ
namespace Go.Proofs.Ytgckofoaiojocaa
open Go.RowKit
set_option linter.unusedVariables false

/-- The three values in their variables, and what was there ahead. -/
def Three (B : Nat) (k n f : Int) (s : ByteArray) (k' n' f' : Int) (s' : ByteArray) (k2 n2 f2 : Int) (s2 : ByteArray) (w0 w : World) : Prop :=
  (At B k n f s w ∧ At (B + 1) k' n' f' s' w ∧ At (B + 2) k2 n2 f2 s2 w) ∧ Below B w0 w ∧ B ≤ w.heap.size
theorem Three.below {B : Nat} {k n f : Int} {s : ByteArray} {k' n' f' : Int} {s' : ByteArray} {k2 n2 f2 : Int} {s2 : ByteArray} {w0 w w' : World} (h : Three B k n f s k' n' f' s' k2 n2 f2 s2 w0 w) (hb : Below w.heap.size w w') : Three B k n f s k' n' f' s' k2 n2 f2 s2 w0 w' := by
  obtain ⟨⟨h1, h2, h3⟩, hB, hz⟩ := h
  exact ⟨⟨h1.below hb, h2.below hb, h3.below hb⟩, hB.trans (hb.mono hz), Nat.le_trans hz hb.size⟩
theorem three_start (k n f : Int) (s : ByteArray) (k' n' f' : Int) (s' : ByteArray) (k2 n2 f2 : Int) (s2 : ByteArray) (w : World) (t : TypeId) :
    Three w.heap.size k n f s k' n' f' s' k2 n2 f2 s2 w (((w.alloc (.cells (vcells k n f s) t)).alloc (.cells (vcells k' n' f' s') t)).alloc (.cells (vcells k2 n2 f2 s2) t)) :=
  ⟨three_at k n f s k' n' f' s' k2 n2 f2 s2 w t, below_three w _ _ _, (below_three w _ _ _).size⟩
end Go.Proofs.Ytgckofoaiojocaa
