
import Derived.Test.YtiobcifpebehnaaDoorA7
import Derived.Lib.AppendZeros
/- A8: Get; Grow, Concat, Clone -/
namespace Go.Proofs.YtiobcifpebehnaaDoor
open Go.RowKit
set_option linter.unusedVariables false

theorem getV_same {a : Att} {b : Bool} (c : Att) (h : a = c) : (Ending.returned (.tuple #[vv a, .bool b]) : Ending) = .returned (.tuple #[vv c, .bool b]) := by rw [h]

theorem below_set4 {w W : World} (h : Below w.heap.size w W) (v0 v1 v2 v3 : Value) : Below w.heap.size w ((((W.setCell ⟨w.heap.size, 0, none⟩ v0).setCell ⟨w.heap.size, 1, none⟩ v1).setCell ⟨w.heap.size, 2, none⟩ v2).setCell ⟨w.heap.size, 3, none⟩ v3) :=
  (((h.setCell (p := ⟨w.heap.size, 0, none⟩) (Nat.le_refl _) _).setCell (p := ⟨w.heap.size, 1, none⟩) (Nat.le_refl _) _).setCell (p := ⟨w.heap.size, 2, none⟩) (Nat.le_refl _) _).setCell (p := ⟨w.heap.size, 3, none⟩) (Nat.le_refl _) _

/-- How a slice lies in a row of slices. -/
def slC : Cel (Option Addr × Nat × Nat) := ⟨fun x => [.slice x.1 x.2.1 x.2.2], 1, fun _ => rfl, fun x u hu => by simp at hu; subst hu; rfl, by decide⟩

set_option maxRecDepth 100000 in
theorem info_att5 : ∃ i0, Tryd.prog.info? 47 = some i0 ∧ i0.zero = some (av noAtt) ∧ i0.size = 5 ∧ i0.bytes = 48 := by
  refine ⟨_, rfl, ?_, ?_, ?_⟩ <;> kernel_rfl

theorem grow_own (w : World) (n : Nat) (hn : n ≤ 100000) (z : Array Value) (hz : z.size = 5) :
    ((w.alloc (.cells (Builtin.zeroCells z n ++ Builtin.zeroCells z (grownCap w n 0 47 - n)) 47)).drew).ownsRow w.heap.size 47 5 (.slice (some ⟨w.heap.size, 0, none⟩) 0 (grownCap w n 0 47)) 0 [] := by
  have hm : n ≤ maxLen := by unfold maxLen; omega
  have h1 := grownCap_ge w n 0 47
  have h2 := grownCap_le_maxLen w n 0 47 hm
  have hs : (Builtin.zeroCells z n ++ Builtin.zeroCells z (grownCap w n 0 47 - n)).size = grownCap w n 0 47 * 5 := by
    rw [Array.size_append, size_zeroCells, size_zeroCells, hz, ← Nat.add_mul, Nat.add_sub_cancel' h1]
  exact ⟨rfl, .inr ⟨w.heap.size, _, _, rfl, Nat.le_refl _, heap_alloc_new w _, Nat.zero_le _, h2, hs, by simp⟩⟩
end Go.Proofs.YtiobcifpebehnaaDoor
