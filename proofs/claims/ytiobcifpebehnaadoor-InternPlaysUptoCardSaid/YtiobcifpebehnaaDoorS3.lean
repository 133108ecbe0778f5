
import Derived.Test.YtiobcifpebehnaaDoorS2
/- S5: may, whole -/
namespace Go.Proofs.YtiobcifpebehnaaDoor
open Go.RowKit
set_option linter.unusedVariables false

theorem keymay_any (k : Key) (w : World) :
    Calls Tryd.prog 28 #[kv k] w fun e w' => e = .returned (.bool (mayK k)) ∧ Below w.heap.size w w' := by
  have hB := (Below.refl w.heap.size w).alloc (Nat.le_refl _) (.cells (kc k).toArray 67)
  have hK := KBox.box k w 67
  rw [mayK_eq]
  have HI := fun w => iskind_any k.kind w
  have HG := fun w => maygroup_any k w
  obtain ⟨id, blk, kind, aft, bef, grp⟩ := k
  simp only at HI hK
  by_cases h1 : 1 ≤ id
  · have d1 : decide (1 ≤ id) = true := by simpa using h1
    simp only [d1, Bool.true_and]
    by_cases h2 : id ≤ 1000
    · have d2 : decide (id ≤ 1000) = true := by simpa using h2
      simp only [d2, Bool.true_and]
      generalize decide (1 ≤ kind ∧ kind ≤ 4) = b3 at HI ⊢
      cases b3
      · simp only [Bool.false_and]
        have HI := Lib.hid HI
        clear HG
        go_enter Tryd.func28, Tryd.ntmps28
        go_wp2_with (go_at_call 40; ((with_reducible refine (HI.out _).mono ?_); rintro e w' ⟨rfl, rfl⟩))
        go_ret
        exact ⟨rfl, hB⟩
      · generalize mayG ⟨id, blk, kind, aft, bef, grp⟩ = b4 at HG ⊢
        simp only [Bool.true_and]
        have HI := Lib.hid HI
        have HG := Lib.hid HG
        cases b4
        · simp only [Bool.false_and]
          go_enter Tryd.func28, Tryd.ntmps28
          go_wp2_with (first
            | (go_at_call 40; ((with_reducible refine (HI.out _).mono ?_); rintro e w' ⟨rfl, rfl⟩))
            | (go_at_call 41; ((with_reducible refine (HG.out _).mono ?_); rintro e w2 ⟨rfl, hb2⟩)))
          go_ret
          exact ⟨rfl, below_add hB hb2 hB.size⟩
        · simp only [Bool.true_and]
          cases blk <;> cases bef
          all_goals
            go_enter Tryd.func28, Tryd.ntmps28
            go_wp2_with (first
              | (go_at_call 40; ((with_reducible refine (HI.out _).mono ?_); rintro e w' ⟨rfl, rfl⟩))
              | (go_at_call 41; ((with_reducible refine (HG.out _).mono ?_); rintro e w2 ⟨rfl, hb2⟩; have hK2 := hK.below hb2 (by simp))))
            go_ret
            exact ⟨rfl, below_add hB hb2 hB.size⟩
    · have d2 : decide (id ≤ 1000) = false := by simpa using h2
      simp only [d2, Bool.false_and]
      clear HI HG
      go_enter Tryd.func28, Tryd.ntmps28
      go_wp2
      go_ret
      exact ⟨rfl, hB⟩
  · have d1 : decide (1 ≤ id) = false := by simpa using h1
    simp only [d1, Bool.false_and]
    clear HI HG
    go_enter Tryd.func28, Tryd.ntmps28
    go_wp2
    go_ret
    exact ⟨rfl, hB⟩
end Go.Proofs.YtiobcifpebehnaaDoor
