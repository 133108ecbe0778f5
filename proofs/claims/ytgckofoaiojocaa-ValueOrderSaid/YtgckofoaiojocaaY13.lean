
import Derived.Test.YtgckofoaiojocaaYH
import Derived.Test.YtgckofoaiojocaaYM4
namespace Go.Proofs.Ytgckofoaiojocaa
open Go.RowKit
set_option linter.unusedVariables false

theorem canon_range {f : Int} (g0 : 0 ≤ f) (g1 : f < 18446744073709551616) : 0 ≤ canonI f ∧ canonI f < 18446744073709551616 := by
  unfold canonI; split <;> omega
theorem canon_canon (f : Int) : canonI (canonI f) = canonI f := by
  cases h : nanI f
  · rw [← canon_no h, ← canon_no h]
  · rw [← canon_yes h]; decide
theorem made_may3 (f : Int) : vmay 3 0 (canonI f) ⟨#[]⟩ = true := by unfold vmay; rw [decide_eq_true_iff]; exact .inr (.inr (.inl ⟨rfl, rfl, canon_canon f, rfl⟩))
theorem made_may2 (n : Int) : vmay 2 n 0 ⟨#[]⟩ = true := by unfold vmay; rw [decide_eq_true_iff]; exact .inr (.inl ⟨rfl, rfl, rfl⟩)
theorem made_may1 (b : Bool) : vmay 1 (flagN b) 0 ⟨#[]⟩ = true := by unfold vmay flagN; rw [decide_eq_true_iff]; refine .inl ⟨rfl, ?_, rfl, rfl⟩; cases b <;> simp
theorem made_num3 (f : Int) : numF 3 0 (canonI f) ⟨#[]⟩ = (canonI f).toNat ∧ numOk 3 0 (canonI f) ⟨#[]⟩ = true := by
  unfold numF numOk; rw [made_may3]; exact ⟨rfl, rfl⟩
theorem made_num2 (n : Int) : numF 2 n 0 ⟨#[]⟩ = floatOfInt .f64 n ∧ numOk 2 n 0 ⟨#[]⟩ = true := by
  unfold numF numOk; rw [made_may2]; exact ⟨rfl, rfl⟩
theorem made_num1 (b : Bool) : numF 1 (flagN b) 0 ⟨#[]⟩ = 0 ∧ numOk 1 (flagN b) 0 ⟨#[]⟩ = false := by
  unfold numF numOk; rw [made_may1]; exact ⟨rfl, rfl⟩
theorem conv_back {n : Int} (h1 : -9007199254740992 < n) (h2 : n < 9007199254740992) (w : World) :
    (convert 30 2 (.float .f64 (floatOfInt .f64 n))).run Try.prog w = .ok (.int .i64 n) w :=
  run_convert_float_int w 30 2 .f64 .i64 _ n (by rw [Try.underlying30]; rfl) Try.underlying2 (fl_back h1 h2)
theorem three_at (k n f : Int) (s : ByteArray) (k' n' f' : Int) (s' : ByteArray) (k2 n2 f2 : Int) (s2 : ByteArray) (w : World) (t : TypeId) :
    At w.heap.size k n f s (((w.alloc (.cells (vcells k n f s) t)).alloc (.cells (vcells k' n' f' s') t)).alloc (.cells (vcells k2 n2 f2 s2) t)) ∧
    At (w.heap.size + 1) k' n' f' s' (((w.alloc (.cells (vcells k n f s) t)).alloc (.cells (vcells k' n' f' s') t)).alloc (.cells (vcells k2 n2 f2 s2) t)) ∧
    At (w.heap.size + 2) k2 n2 f2 s2 (((w.alloc (.cells (vcells k n f s) t)).alloc (.cells (vcells k' n' f' s') t)).alloc (.cells (vcells k2 n2 f2 s2) t)) := by
  obtain ⟨h1, h2⟩ := at_two k n f s k' n' f' s' w t
  exact ⟨h1.alloc _, h2.alloc _, At.boxAt k2 n2 f2 s2 t (by simp)⟩
theorem below_three (w : World) (o1 o2 o3 : Obj) : Below w.heap.size w (((w.alloc o1).alloc o2).alloc o3) := (below_two w o1 o2).alloc (by simp; omega) o3
end Go.Proofs.Ytgckofoaiojocaa
