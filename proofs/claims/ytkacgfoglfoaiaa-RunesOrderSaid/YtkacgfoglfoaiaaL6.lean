import Derived.Test.YtkacgfoglfoaiaaL2
import Derived.Test.YtkacgfoglfoaiaaM4
namespace Go.Proofs.Ytkacgfoglfoaiaa
open Go.RowKit
set_option linter.unusedVariables false

set_option maxHeartbeats 1000000 in
theorem order_bad (v1 v2 : Value) (xs ys : List Int) (w : World) (hv1 : Ints .i32 w v1 xs) (hv2 : Ints .i32 w v2 ys) (hbad : 1000 < xs.length ∨ 1000 < ys.length ∨ allMay xs = false ∨ allMay ys = false) :
    Calls Try.prog 6 #[v1, v2] w fun e w' => e = .returned (.bool true) ∧ Below w.heap.size w w' := by
  have l1 := hv1.len
  have l2 := hv2.len
  by_cases hx : 1000 < xs.length
  · obtain ⟨a, cap, rfl⟩ := hv1.shape
    obtain ⟨a2, cap2, rfl⟩ := hv2.shape
    clear hv1 hv2 hbad
    go_enter Try.func6, Try.ntmps6
    go_wp2_with (go_at_call 7; refine (known_any _).mono ?_; rintro e w' ⟨rfl, hb6⟩)
    go_ret
    exact ⟨rfl, hb6⟩
  by_cases hy : 1000 < ys.length
  · obtain ⟨a, cap, rfl⟩ := hv1.shape
    obtain ⟨a2, cap2, rfl⟩ := hv2.shape
    clear hv1 hv2 hbad
    go_enter Try.func6, Try.ntmps6
    go_wp2_with (go_at_call 7; refine (known_any _).mono ?_; rintro e w' ⟨rfl, hb6⟩)
    go_ret
    exact ⟨rfl, hb6⟩
  have HV1 := Lib.hid hv1
  have HV2 := Lib.hid hv2
  obtain ⟨a, cap, hva⟩ := hv1.shape
  obtain ⟨a2, cap2, hva2⟩ := hv2.shape
  subst hva
  subst hva2
  clear hv1 hv2
  have HBAD := Lib.hid hbad
  clear hbad
  go_enter Try.func6, Try.ntmps6
  go_wp2_with fail
  refine ((bytes_any _ _ _ HV1.out (by omega)).mono (fun _ _ h => bytes_out h)).mono ?_
  rintro e w1 ⟨b1, x, rfl, ix⟩
  have iv2 := HV2.out.below b1
  go_wp2_with fail
  refine ((bytes_any _ _ _ iv2 (by omega)).mono (fun _ _ h => bytes_out h)).mono ?_
  rintro e w2 ⟨b12, y, rfl, iy⟩
  have b2 := b1.trans (b12.mono b1.size)
  clear ix iy iv2 b1 b12
  cases ha : allMay xs with
  | false =>
    have e1 : bErr xs = 3 := by simp [bErr, ha]
    rw [e1]
    clear e1
    go_wp2_with (go_at_call 7; refine (known_any _).mono ?_; rintro e w' ⟨rfl, hb6⟩)
    go_ret
    exact ⟨rfl, b2.trans (hb6.mono b2.size)⟩
  | true =>
    have hb : allMay ys = false := by
      have := HBAD.out
      rw [ha] at this
      rcases this with h | h | h | h
      · exact absurd h hx
      · exact absurd h hy
      · cases h
      · exact h
    have e1 : bErr xs = 0 := by simp [bErr, ha]
    have e2 : bErr ys = 3 := by simp [bErr, hb]
    rw [e1, e2]
    clear e1 e2
    go_wp2_with (go_at_call 7; refine (known_any _).mono ?_; rintro e w' ⟨rfl, hb6⟩)
    go_ret
    exact ⟨rfl, b2.trans (hb6.mono b2.size)⟩
end Go.Proofs.Ytkacgfoglfoaiaa
