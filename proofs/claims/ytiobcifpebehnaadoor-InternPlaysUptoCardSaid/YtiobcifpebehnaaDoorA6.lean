
import Derived.Test.YtiobcifpebehnaaDoorA5
/- A6: where a key stands -/
namespace Go.Proofs.YtiobcifpebehnaaDoor
open Go.RowKit
set_option linter.unusedVariables false

def geAt (xs : List Att) (key : Int) (i : Nat) : Bool := decide (key ≤ (xs.getD i noAtt).key)
theorem geAt_of {xs : List Att} {key : Int} {i : Nat} (h : i < xs.length) : geAt xs key i = decide (key ≤ xs[i].key) := by
  unfold geAt; rw [List.getD_eq_getElem?_getD, List.getElem?_eq_getElem h]; rfl
def thereB (xs : List Att) (key : Int) (i : Nat) : Bool := if h : i < xs.length then xs[i].key == key else false
theorem thereB_in {xs : List Att} {key : Int} {i : Nat} (h : i < xs.length) : thereB xs key i = (xs[i].key == key) := by unfold thereB; rw [dif_pos h]
theorem thereB_out {xs : List Att} {key : Int} {i : Nat} (h : ¬ i < xs.length) : thereB xs key i = false := by unfold thereB; rw [dif_neg h]
theorem two_new {w : World} (v1 v2 : Value) (t1 t2 : TypeId) {W : World} (hW : (w.alloc (.cells #[v1] t1)).alloc (.cells #[v2] t2) = W) : W.cell? ⟨w.heap.size, 0, none⟩ = some v1 ∧ W.cell? ⟨w.heap.size + 1, 0, none⟩ = some v2 ∧ Below w.heap.size w W := by
  subst hW
  have h1 := heap_alloc_new w (.cells #[v1] t1)
  have h2 := heap_alloc_new (w.alloc (.cells #[v1] t1)) (.cells #[v2] t2)
  simp only [World.size_alloc] at h2
  refine ⟨?_, ?_, ((Below.refl _ _).alloc (Nat.le_refl _) _).alloc (by simp) _⟩
  · have hc : (w.alloc (.cells #[v1] t1)).cell? ⟨w.heap.size, 0, none⟩ = some v1 := by rw [cell_of_row _ w.heap.size 0 _ _ (0, 0) h1]; rfl
    exact (((Below.refl _ _).alloc (Nat.le_refl _) (.cells #[v2] t2)).cell (p := ⟨w.heap.size, 0, none⟩) (by simp)).trans hc
  · rw [cell_of_row _ (w.heap.size + 1) 0 _ _ (0, 0) h2]; rfl

theorem ret_place {i : Int} {a b : Bool} (h : a = b) : Ending.returned (.tuple #[.int .i64 i, .bool a]) = .returned (.tuple #[.int .i64 i, .bool b]) := by rw [h]

end Go.Proofs.YtiobcifpebehnaaDoor
