
import Derived.Test.YtgckofoaiojocaaA4
namespace Go.Proofs.Ytgckofoaiojocaa
open Go.RowKit
set_option linter.unusedVariables false

theorem six_any (n : Int) (w : World) (h0 : 0 ≤ n) (h1 : n ≤ 2147483647) :
    Calls Try.prog 39 #[.int .i32 n] w fun e w' => e = .returned (.int .u8 (128 + n % 64)) ∧ w = w' := by
  go_enter Try.func39, Try.ntmps39
  go_wp2
  go_ret
  exact ⟨rfl, rfl⟩

def OnePost (r : Int) (w : World) (e : Ending) (w' : World) : Prop :=
  Below w.heap.size w w' ∧ ∃ g n, e = .returned (.slice (some ⟨g, 0, none⟩) n n) ∧ n = (Lib.encodeRuneZ r).length ∧ w'.ownsRow w.heap.size 5 1 (.slice (some ⟨g, 0, none⟩) n n) n ((Lib.encodeRuneZ r).map (Value.int .u8))

theorem one_end (w : World) (r : Int) (zs : List Int) (h : Lib.encodeRuneZ r = zs) (hl : zs.length ≤ 4) :
    OnePost r w (.returned (.slice (some ⟨w.heap.size, 0, none⟩) zs.length zs.length)) (w.alloc (.cells (zs.map (Value.int .u8)).toArray 5)) := by
  refine ⟨(Below.refl _ _).alloc (Nat.le_refl _) _, w.heap.size, zs.length, rfl, by rw [h], ?_⟩
  have := owns_built w 5 (zs.map (Value.int .u8)).toArray (by simp; unfold maxLen; omega)
  simpa [h] using this

set_option maxHeartbeats 1000000 in
theorem one_any (r : Int) (w : World) (h0 : mayB r = true) :
    Calls Try.prog 37 #[.int .i32 r] w (OnePost r w) := by
  have hr := may_range r h0
  unfold mayB at h0
  rw [decide_eq_true_iff] at h0
  have hcases : r < 128 ∨ (128 ≤ r ∧ r < 2048) ∨ (2048 ≤ r ∧ r < 65536) ∨ 65536 ≤ r := by omega
  rcases hcases with h | ⟨h, h'⟩ | ⟨h, h'⟩ | h
  · have E := one_end w r [r] (Lib.encodeRuneZ_one (by omega) (by omega)) (by simp)
    clear h0
    go_enter Try.func37, Try.ntmps37
    go_wp2
    go_ret
    exact E
  · have E := one_end w r _ (Lib.encodeRuneZ_two (by omega) (by omega)) (by simp)
    clear h0
    go_enter Try.func37, Try.ntmps37
    go_wp2_with (go_at_call 39; refine (six_any _ _ (by omega) (by omega)).mono ?_; rintro e w' ⟨rfl, rfl⟩)
    go_ret
    exact E
  · have E := one_end w r _ (Lib.encodeRuneZ_three (by omega)) (by simp)
    clear h0
    go_enter Try.func37, Try.ntmps37
    go_wp2_with (go_at_call 39; refine (six_any _ _ (by omega) (by omega)).mono ?_; rintro e w' ⟨rfl, rfl⟩)
    go_ret
    exact E
  · have E := one_end w r _ (Lib.encodeRuneZ_four (by omega) (by omega)) (by simp)
    clear h0
    go_enter Try.func37, Try.ntmps37
    go_wp2_with (go_at_call 39; refine (six_any _ _ (by omega) (by omega)).mono ?_; rintro e w' ⟨rfl, rfl⟩)
    go_ret
    exact E
end Go.Proofs.Ytgckofoaiojocaa
