
import Derived.Test.YtoppgdhidnpibaaOH
/- OI: Of -/
namespace Go.Proofs.Ytoppgdhidnpibaa
open Go.RowKit
set_option linter.unusedVariables false

/-- What Of answers: why there is no chunk, and the chunk's runes. -/
def ofE (xs : List Int) : Int := if xs.all code = true then (if 32 < xs.length then 8 else 0) else 3
def ofL (xs : List Int) : List Int := if ofE xs = 0 then xs else []
theorem code_iff {r : Int} : code r = true ↔ 0 ≤ r ∧ r ≤ 1114111 ∧ ¬ (55296 ≤ r ∧ r ≤ 57343) := by
  simp [code]; omega
theorem ofE_bad {xs : List Int} {k : Nat} (hk : k < xs.length) (h : code (xs.getD k 0) = false) : ofE xs = 3 := by
  unfold ofE
  rw [if_neg]
  intro ha
  have := List.all_eq_true.1 ha (xs.getD k 0) (by simp [List.getD, hk])
  rw [h] at this; cases this
theorem ofE_long {xs : List Int} (h : xs.all code = true) (hl : 32 < xs.length) : ofE xs = 8 := by unfold ofE; rw [if_pos h, if_pos hl]
theorem ofE_ok {xs : List Int} (h : xs.all code = true) (hl : ¬ 32 < xs.length) : ofE xs = 0 := by unfold ofE; rw [if_pos h, if_neg hl]
theorem chunky_of {xs : List Int} (h : ofE xs = 0) : Chunky xs := by
  unfold ofE at h
  split at h
  · rename_i ha
    split at h
    · cases h
    · exact ⟨by omega, fun r hr => by have := code_iff.1 (List.all_eq_true.1 ha r hr); omega⟩
  · cases h
theorem chunky_ofL (xs : List Int) : Chunky (ofL xs) := by
  unfold ofL
  split
  · rename_i h; exact chunky_of h
  · exact chunky_nil
theorem ofL_ok {xs : List Int} (h : ofE xs = 0) : ofL xs = xs := by unfold ofL; rw [if_pos h]
theorem ofL_not {xs : List Int} (h : ofE xs ≠ 0) : ofL xs = [] := by unfold ofL; rw [if_neg h]
theorem all_take_succ {xs : List Int} {k : Nat} (hk : k < xs.length) (h : (xs.take k).all code = true) (h2 : code (xs.getD k 0) = true) : (xs.take (k + 1)).all code = true := by
  rw [take_snoc xs k hk, List.all_append, h]
  simpa using h2
theorem slots_set {l : List Int} {k : Nat} (hk : k < l.length) (hl : l.length ≤ 32) : (slots (l.take k)).set k (l.getD k 0 + 1) = slots (l.take (k + 1)) := by
  have h1 : (l.take k).length = k := by rw [List.length_take]; omega
  have h2 : (l.take (k + 1)).length = k + 1 := by rw [List.length_take]; omega
  unfold slots
  rw [h1, h2, List.set_append_right _ _ (by simp; omega), List.length_map, h1, Nat.sub_self, show 32 - k = (32 - (k + 1)) + 1 by omega, List.replicate_succ, List.set_cons_zero, take_snoc l k hk, List.map_append, List.append_assoc]
  rfl

def ofV (xs : List Int) : Value := .tuple #[cv (ofL xs), .int .i64 (ofE xs)]
theorem ofV_not {xs : List Int} {e : Int} (h : ofE xs = e) (h0 : e ≠ 0) : ofV xs = .tuple #[.agg (row zero32), .int .i64 e] := by
  unfold ofV cv; rw [ofL_not (by rw [h]; exact h0), h, slots_nil]
theorem ofV_ok {xs : List Int} (h : ofE xs = 0) : ofV xs = .tuple #[.agg (row (slots xs)), .int .i64 0] := by
  unfold ofV cv; rw [ofL_ok h, h]

end Go.Proofs.Ytoppgdhidnpibaa
