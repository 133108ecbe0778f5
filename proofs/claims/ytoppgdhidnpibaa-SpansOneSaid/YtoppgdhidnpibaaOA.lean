
import Derived.Test.YtoppgdhidnpibaaG
import Derived.Deep.WholeRow
import Derived.Carry
/- OA: rows of 32 cells by value; a chunk as plain data; whether a rune may be; how many runes a chunk has -/
namespace Go.Proofs.Ytoppgdhidnpibaa
open Go.RowKit
set_option linter.unusedVariables false

/-- The cells of a row of int32. -/
def row (xs : List Int) : Array Value := (xs.map (Value.int .i32)).toArray
theorem row_size (xs : List Int) : (row xs).size = xs.length := by simp [row]
theorem row_get (xs : List Int) (j : Nat) (h : j < xs.length) : (row xs)[j]? = some (.int .i32 (xs.getD j 0)) := by simp [row, List.getD, h]
theorem row_one (xs : List Int) : (row xs).all (·.oneCell') = true := by
  rw [Array.all_eq_true_iff_forall_mem]
  intro v hv
  simp [row] at hv
  obtain ⟨x, -, rfl⟩ := hv
  rfl
/-- Block b holds these cells, as a variable of type t. -/
def RowAt (b : Nat) (t : TypeId) (xs : List Int) (w : World) : Prop := w.heap[b]? = some (.cells (row xs) t (0, 0))
theorem RowAt.cell {b j : Nat} {t : TypeId} {xs : List Int} {w : World} (h : RowAt b t xs w) (hj : j < xs.length) : w.cell? ⟨b, j, none⟩ = some (.int .i32 (xs.getD j 0)) := by
  rw [cell_of_row w b j _ t (0, 0) h, row_get xs j hj]
theorem rowAt_new (w : World) (t : TypeId) (xs : List Int) : RowAt w.heap.size t xs (w.alloc (.cells (row xs) t)) := heap_alloc_new w _
theorem RowAt.alloc {b : Nat} {t : TypeId} {xs : List Int} {w : World} (h : RowAt b t xs w) (o : Obj) : RowAt b t xs (w.alloc o) := by
  have hlt := (Array.getElem?_eq_some_iff.1 h).1
  show (w.alloc o).heap[b]? = _
  exact (heap_alloc_old w o hlt).trans h
theorem RowAt.below {b : Nat} {t : TypeId} {xs : List Int} {w w' : World} (h : RowAt b t xs w) (hb : Below w.heap.size w w') : RowAt b t xs w' :=
  (hb.block b (Array.getElem?_eq_some_iff.1 h).1).trans h

/-- May a number be a rune? -/
def code (r : Int) : Bool := decide (0 ≤ r) && decide (r ≤ 1114111) && !(decide (55296 ≤ r) && decide (r ≤ 57343))
theorem code_of {r : Int} {a b c d : Bool} (h1 : decide (0 ≤ r) = a) (h2 : decide (r ≤ 1114111) = b) (h3 : decide (55296 ≤ r) = c) (h4 : decide (r ≤ 57343) = d) : code r = (a && b && !(c && d)) := by rw [code, h1, h2, h3, h4]
/-- The slots of a chunk of these runes, and its value. -/
def slots (l : List Int) : List Int := l.map (· + 1) ++ List.replicate (32 - l.length) 0
def cv (l : List Int) : Value := .agg (row (slots l))
def Chunky (l : List Int) : Prop := l.length ≤ 32 ∧ ∀ r ∈ l, 0 ≤ r ∧ r ≤ 1114111
theorem slots_len {l : List Int} (h : l.length ≤ 32) : (slots l).length = 32 := by simp [slots]; omega
theorem slots_in {l : List Int} {j : Nat} (h : j < l.length) : (slots l).getD j 0 = l.getD j 0 + 1 := by
  simp [slots, List.getD, List.getElem?_append_left, h]
theorem slots_out {l : List Int} {j : Nat} (h : l.length ≤ j) : (slots l).getD j 0 = 0 := by
  simp only [slots, List.getD]
  rw [List.getElem?_append_right (by simpa using h), List.getElem?_replicate]
  split <;> rfl
end Go.Proofs.Ytoppgdhidnpibaa
