
import Derived.Test.YtoppgdhidnpibaaOG
/- OH: Join -/
namespace Go.Proofs.Ytoppgdhidnpibaa
open Go.RowKit
set_option linter.unusedVariables false

theorem slots_zero {l : List Int} (h : Chunky l) : (slots l == zero32) = decide (l.length = 0) := by
  rw [← slots_nil, slots_beq h chunky_nil]
  cases l <;> simp

theorem join_splice (l m : List Int) (hl : l.length ≤ 32) (hm : m.length ≤ 32) {N : Nat} (hN : N = 32 - l.length) (hlm : l.length + m.length ≤ 32) :
    splice ((slots l).map (Value.int .i32)) l.length (((slots m).take N).map (Value.int .i32)) = (slots (l ++ m)).map (Value.int .i32) := by
  have h1 : ((slots m).take N).length = 32 - l.length := by rw [List.length_take, slots_len hm]; omega
  have h2 : (slots l).drop (l.length + (32 - l.length)) = [] := List.drop_eq_nil_of_le (by rw [slots_len hl]; omega)
  unfold splice
  rw [List.length_map, h1, ← List.map_take, ← List.map_drop, h2, List.map_nil, List.append_nil, ← List.map_append]
  congr 1
  subst hN
  unfold slots
  rw [List.take_append_of_le_length (by simp), List.take_of_length_le (by simp), List.take_append, List.length_map, List.take_of_length_le (by simp; omega), List.take_replicate, List.map_append, List.length_append, List.append_assoc]
  congr 3
  omega
end Go.Proofs.Ytoppgdhidnpibaa
