
import Derived.Test.YtoppgdhidnpibaaOB
/- OC: newlines in all; where the k-th one is; the rune at a place -/
namespace Go.Proofs.Ytoppgdhidnpibaa
open Go.RowKit
set_option linter.unusedVariables false

/-- Where the newlines are, ahead of a place. -/
def pos (l : List Int) (n : Nat) : List Nat := (List.range n).filter (fun i => (slots l).getD i 0 == 11)
theorem pos_succ (l : List Int) (k : Nat) : pos l (k + 1) = pos l k ++ (if ((slots l).getD k 0 == 11) = true then [k] else []) := by
  unfold pos
  rw [List.range_succ, List.filter_append]
  congr 1
  simp only [List.filter_cons, List.filter_nil]
theorem pos_length (l : List Int) : ∀ k, (pos l k).length = nl (l.take k)
  | 0 => by simp [pos, nl]
  | k + 1 => by
    rw [pos_succ, List.length_append, pos_length l k]
    cases h : ((slots l).getD k 0 == 11) with
    | true => rw [nl_yes h]; simp
    | false => rw [nl_no h]; simp
theorem pos_past (l : List Int) : ∀ n k, ∃ r, pos l (k + n) = pos l k ++ r
  | 0, k => ⟨[], by simp⟩
  | n + 1, k => by
    obtain ⟨r, hr⟩ := pos_past l n k
    exact ⟨_, by rw [← Nat.add_assoc, pos_succ, hr, List.append_assoc]⟩
theorem pos_at {l : List Int} {j n : Nat} (h : ((slots l).getD j 0 == 11) = true) (hn : j < n) : (pos l n)[nl (l.take j)]? = some j := by
  obtain ⟨r, hr⟩ := pos_past l (n - (j + 1)) (j + 1)
  rw [show j + 1 + (n - (j + 1)) = n by omega, pos_succ, if_pos h] at hr
  rw [hr, List.append_assoc, List.getElem?_append_right (by rw [pos_length]; exact Nat.le_refl _), pos_length, Nat.sub_self]
  rfl
/-- Where the k-th newline is, if there is one. -/
def nlAt (l : List Int) (k : Int) : Option Nat := if k < 0 then none else (pos l 32)[k.toNat]?
theorem nlAt_yes {l : List Int} {j : Nat} {k : Int} (h : ((slots l).getD j 0 == 11) = true) (hj : j < 32) (hk : (nl (l.take j) : Int) = k) : nlAt l k = some j := by
  unfold nlAt
  rw [if_neg (by omega), show k.toNat = nl (l.take j) by omega, pos_at h hj]
theorem nlAt_no {l : List Int} {k : Int} (h : k < 0 ∨ (nl (l.take 32) : Int) ≤ k) : nlAt l k = none := by
  unfold nlAt
  split
  · rfl
  · rw [List.getElem?_eq_none_iff, pos_length]; omega
def nlVal (o : Option Nat) : Value := .tuple #[.int .i64 (o.getD 0 : Nat), .bool o.isSome]

end Go.Proofs.Ytoppgdhidnpibaa
