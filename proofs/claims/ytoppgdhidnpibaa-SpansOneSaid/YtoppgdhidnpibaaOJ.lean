
import Derived.Test.YtoppgdhidnpibaaOI
/- OJ: the reference: Same, Code, Of, Newlines -/
namespace Go.Proofs.Ytoppgdhidnpibaa
open Go.RowKit
set_option linter.unusedVariables false

def sameB9 (xs ys : List Int) : Bool := decide (xs = ys)

theorem same9_ne (xs ys : List Int) (k : Nat) (h1 : k < xs.length) (h2 : k < ys.length) (h : xs.getD k 0 ≠ ys.getD k 0) : sameB9 xs ys = false := by
  unfold sameB9
  rw [decide_eq_false_iff_not]
  rintro rfl
  exact h rfl
theorem same9_eq (xs ys : List Int) (h1 : xs.length = ys.length) (h : xs.take xs.length = ys.take xs.length) : sameB9 xs ys = true := by
  unfold sameB9
  rw [decide_eq_true_iff]
  rw [List.take_of_length_le (Nat.le_refl _), h1, List.take_of_length_le (Nat.le_refl _)] at h
  exact h

theorem rcode_of {r : Int} {a b c d : Bool} (h1 : decide (r < 0) = a) (h2 : decide (1114111 < r) = b) (h3 : decide (r < 55296) = c) (h4 : decide (57343 < r) = d) : code r = (!a && !b && (c || d)) := by
  subst h1 h2 h3 h4
  unfold code
  by_cases q1 : r < 0 <;> by_cases q2 : 1114111 < r <;> by_cases q3 : r < 55296 <;> by_cases q4 : 57343 < r <;> simp [q1, q2, q3, q4] <;> omega
/-- Where the newlines are, as the reference tells them. -/
def posI (l : List Int) (k : Nat) : List Int := (pos l k).map (fun j : Nat => (j : Int))
theorem posI_yes {l : List Int} {k : Nat} (hk : k < l.length) (h : (l.getD k 0 == 10) = true) : posI l (k + 1) = posI l k ++ [(k : Int)] := by
  have h' : ((slots l).getD k 0 == 11) = true := by rw [slots_in hk, beq_iff_eq]; rw [beq_iff_eq] at h; omega
  unfold posI
  rw [pos_succ, if_pos h', List.map_append]; rfl
theorem posI_no {l : List Int} {k : Nat} (hk : k < l.length) (h : (l.getD k 0 == 10) = false) : posI l (k + 1) = posI l k := by
  have h' : ¬ ((slots l).getD k 0 == 11) = true := by rw [slots_in hk, beq_iff_eq]; rw [beq_eq_false_iff_ne] at h; omega
  unfold posI
  rw [pos_succ, if_neg h', List.append_nil]
theorem pos_stop (l : List Int) : ∀ n, pos l (l.length + n) = pos l l.length
  | 0 => rfl
  | n + 1 => by
    rw [← Nat.add_assoc, pos_succ, if_neg (by rw [slots_out (by omega)]; decide), List.append_nil, pos_stop l n]
theorem pos_all {l : List Int} (h : l.length ≤ 32) : pos l 32 = pos l l.length := by
  have := pos_stop l (32 - l.length)
  rwa [show l.length + (32 - l.length) = 32 by omega] at this
theorem posI_len (l : List Int) (k : Nat) : (posI l k).length = nl (l.take k) := by unfold posI; rw [List.length_map, pos_length]
theorem info64 : (Try.prog.info? 3).map (fun i => (i.zero, i.size, i.bytes)) = some (some (.int .i64 0), 1, 8) := by kernel_rfl
theorem cell_new (w : World) (x : Value) (t : TypeId) : ∀ j u, [x][j]? = some u → (w.alloc (.cells #[x] t)).cell? ((⟨w.heap.size, 0, none⟩ : Addr).add j) = some u := by
  intro j u hj
  match j, hj with
  | 0, hj => simp at hj; subst hj; simp [Addr.add]

end Go.Proofs.Ytoppgdhidnpibaa
