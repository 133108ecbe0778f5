import Derived.Test.YtkacgfoglfoaiaaA8
namespace Go.Proofs.Ytkacgfoglfoaiaa
open Go.RowKit
set_option linter.unusedVariables false

theorem ints_built (k : IntKind) (w : World) (e : TypeId) (zs : List Int) (hm : zs.length ≤ maxLen) :
    Ints k (w.alloc (.cells (zs.map (Value.int k)).toArray e)) (.slice (some ⟨w.heap.size, 0, none⟩) zs.length zs.length) zs := by
  have h := owns_built w e (zs.map (Value.int k)).toArray (by simpa using hm)
  simp only [List.size_toArray, List.length_map] at h
  exact (Ints.of_owns (n := zs.length) h).1

set_option maxHeartbeats 4000000 in
theorem known_any (w : World) :
    Calls Try.prog 7 #[] w fun e w' => e = .returned (.bool true) ∧ Below w.heap.size w w' := by
  have i1 := ints_built .i32 w 21 [97, 10, 228] (by unfold maxLen; simp)
  go_enter Try.func7, Try.ntmps7
  go_wp2_with (go_at_call 8; refine (bytes_any _ _ _ i1 (by simp)).mono ?_)
  rintro e w1 ⟨b1, ⟨_, v, n, rfl, hown⟩ | ⟨hno, _⟩⟩
  · have e1 : utfZ [97, 10, 228] = [97, 10, 195, 164] := by decide
    rw [e1] at hown
    have iv := (Ints.of_owns hown).1
    have i2 := ints_built .u8 w1 5 [192, 128] (by unfold maxLen; simp)
    have hb1 : Below w.heap.size w w1 := ((Below.refl _ _).alloc (Nat.le_refl _) _).trans (b1.mono (by simp))
    clear b1 hown e1
    go_wp2_with (go_at_call 10; refine (read_any _ _ _ i2 (by simp)).mono ?_)
    rintro e w2 ⟨b2, ⟨rs, v2, n2, hrs, _⟩ | ⟨_, rfl⟩⟩
    · have hnone : readL (bl [192, 128]) = none := by decide +kernel
      rw [hnone] at hrs
      cases hrs
    · have hsz := hb1.size
      have hb2 : Below w.heap.size w w2 := (hb1.alloc hsz _).trans (b2.mono (by simp; omega))
      have iv2 := (iv.below ((Below.refl _ _).alloc (Nat.le_refl _) (.cells #[.int .u8 192, .int .u8 128] 5))).below b2
      have hcv := conv_ints v _ _ iv2
      have es : strOfNums [97, 10, 195, 164] = ⟨#[97, 10, 195, 164]⟩ := rfl
      rw [es] at hcv
      have i3 := ints_built .i32 w2 21 [10, 97, 10] (by unfold maxLen; simp)
      have hn : nl [10, 97, 10] = 2 := by decide
      have hm : mayB 55296 = false := by decide
      have hsz2 := hb2.size
      have hb3 := hb2.alloc hsz2 (.cells #[.int .i32 10, .int .i32 97, .int .i32 10] 21)
      clear iv iv2 b2 hb1 hb2 es i1 i2
      go_wp2_with (first
        | (go_at_call 15; refine (newlines_any _ _ _ i3).mono ?_; rintro e w' ⟨rfl, rfl⟩)
        | (go_at_call 13; refine (may_any _ _).mono ?_; rintro e w' ⟨rfl, rfl⟩))
      go_ret
      exact ⟨rfl, hb3⟩
  · exact absurd hno (by decide)
end Go.Proofs.Ytkacgfoglfoaiaa
