
import Derived.Test.YtgckofoaiojocaaA9
namespace Go.Proofs.Ytgckofoaiojocaa
open Go.RowKit
set_option linter.unusedVariables false

theorem bl_map (bs : List Int) : bl bs = bs.map fun n => UInt8.ofNat n.toNat := rfl
theorem bl_utfZ (xs : List Int) : bl (utfZ xs) = encs xs := by
  rw [bl_map, utfZ, encs, List.map_flatMap]
  rfl
theorem allMay_iff (xs : List Int) : allMay xs = true ↔ ∀ x ∈ xs, mayP x := by
  rw [allMay, List.all_eq_true]
  constructor
  · intro h x hx
    have := h x hx
    unfold mayB at this
    rw [decide_eq_true_iff] at this
    exact this
  · intro h x hx
    unfold mayB
    rw [decide_eq_true_iff]
    exact h x hx
theorem str_of_bl {a b : List Int} (h : bl a = bl b) : strOfNums a = strOfNums b := by
  unfold strOfNums
  rw [bl_map, bl_map] at h
  rw [h]

theorem encs_len : ∀ xs : List Int, xs.length ≤ (encs xs).length
  | [] => by simp
  | x :: t => by
    have h := encodeRune_len x
    have ih := encs_len t
    rw [encs_cons, List.length_append, List.length_cons]
    omega
/-- What was read: it may be, and its bytes are these. -/
theorem read_back {bs rs : List Int} (h : readL (bl bs) = some rs) : allMay rs = true ∧ strOfNums (utfZ rs) = strOfNums bs ∧ rs.length ≤ bs.length := by
  obtain ⟨h1, h2⟩ := encs_read _ _ _ (Nat.le_refl _) h
  refine ⟨(allMay_iff rs).2 h2, str_of_bl (by rw [bl_utfZ, h1]), ?_⟩
  have := encs_len rs
  rw [h1, bl_len] at this
  exact this

end Go.Proofs.Ytgckofoaiojocaa
