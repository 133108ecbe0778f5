
import Derived.Test.YtiobcifpebehnaaDoorS6
/- S25: New of keys that may be, of keys that may not -/
namespace Go.Proofs.YtiobcifpebehnaaDoor
open Go.RowKit
set_option linter.unusedVariables false

theorem krow_built (w : World) (t : TypeId) (ks : List Key) (hm : ks.length ≤ maxLen) : Krow (w.alloc (.cells (flat ks).toArray t)) (.slice (some ⟨w.heap.size, 0, none⟩) ks.length ks.length) ks := by
  by_cases h0 : ks = []
  · subst h0; exact .inl ⟨_, 0, rfl, rfl, by simp, by simp⟩
  · refine .inr ⟨_, 0, _, rfl, List.length_pos_iff.2 h0, Nat.le_refl _, hm, fun j u hu => ?_⟩
    rw [cell_of_row (w.alloc (.cells (flat ks).toArray t)) w.heap.size (0 + j) _ t (0, 0) (heap_alloc_new w _), ← hu]
    simp

/-- New of keys that may be; of keys that may not. -/
theorem new_yes {v : Value} {ks : List Key} {w : World} (hv : Krow w v ks) (hW : ∀ k ∈ ks, KeyW k) (hm : mayKs ks) :
    Calls Tryd.prog 9 #[v] w fun e w' => ∃ s, e = .returned (.tuple #[.pointer (some s), .int .i64 0]) ∧ Sch w' (.pointer (some s)) ks ∧ Below w.heap.size w w' :=
  (new_any v ks w hv hW).mono fun e w' h => by
    obtain ⟨hb, ⟨_, s, he, hs⟩ | ⟨hn, _⟩⟩ := h
    · exact ⟨s, he, hs, hb⟩
    · exact absurd hm hn
theorem new_no {v : Value} {ks : List Key} {w : World} (hv : Krow w v ks) (hW : ∀ k ∈ ks, KeyW k) (hm : ¬ mayKs ks) :
    Calls Tryd.prog 9 #[v] w fun e w' => e = .returned (.tuple #[.pointer none, .int .i64 3]) ∧ Below w.heap.size w w' :=
  (new_any v ks w hv hW).mono fun e w' h => by
    obtain ⟨hb, ⟨hy, _⟩ | ⟨_, he⟩⟩ := h
    · exact absurd hy hm
    · exact ⟨he, hb⟩
end Go.Proofs.YtiobcifpebehnaaDoor
