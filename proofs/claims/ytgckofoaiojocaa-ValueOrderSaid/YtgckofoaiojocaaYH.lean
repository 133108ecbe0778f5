
import Derived.Test.YtgckofoaiojocaaY9
import Derived.Test.YtgckofoaiojocaaYK
namespace Go.Proofs.Ytgckofoaiojocaa
open Go.RowKit
set_option linter.unusedVariables false

theorem numF_no {k n f : Int} {s : ByteArray} (h : numOk k n f s = false) : numF k n f s = 0 := by
  unfold numOk at h
  unfold numF
  cases hv : vmay k n f s
  · simp
  · rw [hv] at h
    simp at h
    simp [h.1, h.2]
theorem vmay_text (s : ByteArray) : vmay 4 0 0 s = textB s := by
  unfold vmay; rw [Bool.eq_iff_iff]; simp
theorem At.alloc {B : Nat} {k n f : Int} {s : ByteArray} {w : World} (h : At B k n f s w) (o : Obj) : At B k n f s (w.alloc o) := h.below ((Below.refl _ _).alloc (Nat.le_refl _) _)
theorem At.drew {B : Nat} {k n f : Int} {s : ByteArray} {w : World} (h : At B k n f s w) : At B k n f s w.drew := h.below ((Below.refl _ _).drew)
theorem At.boxAt {B : Nat} (k n f : Int) (s : ByteArray) {w : World} (t : TypeId) (hB : w.heap.size = B) : At B k n f s (w.alloc (.cells (vcells k n f s) t)) := by
  subst hB; exact At.box k n f s w t
theorem zero_ne : (FloatKind.f64.format.order 0 0 != some .eq) = false := by rw [nan_ne]; decide
theorem textV_t {s : ByteArray} (h : textB s = true) : textV s = val 4 0 0 s := by unfold textV; rw [h]; rfl
theorem textV_f {s : ByteArray} (h : textB s = false) : textV s = val 0 0 0 ⟨#[]⟩ := by unfold textV; rw [h]; rfl
theorem textE_t {s : ByteArray} (h : textB s = true) : textE s = 0 := by unfold textE; rw [h]; rfl
theorem textE_f {s : ByteArray} (h : textB s = false) : textE s = 3 := by unfold textE; rw [h]; rfl
theorem floatF (a : Int) (w : World) (g0 : 0 ≤ a) (g1 : a < 18446744073709551616) : Calls Try.prog 16 #[.float .f64 a.toNat] w fun e w' => e = .returned (val 3 0 (canonI a) ⟨#[]⟩) ∧ Below w.heap.size w w' := by
  have hc : canonI (a.toNat : Int) = canonI a := by rw [Int.toNat_of_nonneg g0]
  rw [← hc]
  exact float_any _ w (by omega)

theorem may_long (k n f : Int) (s : ByteArray) (a1 a2 : Int) (s3 : ByteArray) (b : Bool) (w : World) (hl : ¬ (s.size ≤ 1000 ∧ s3.size ≤ 1000)) :
    Calls Try.prog 3 #[val k n f s, .int .u64 a1, .int .i64 a2, .string s3, .bool b] w fun e w' => e = .returned (.bool true) ∧ Below w.heap.size w w' := by
  have HK := Lib.hid known_any
  have hB := (Below.refl w.heap.size w).alloc (Nat.le_refl _) (.cells (vcells k n f s) 24)
  go_enter Try.func3, Try.ntmps3
  go_wp2_with (go_at_call 7; refine (HK.out _).mono ?_; rintro e w' ⟨rfl, hb⟩)
  all_goals
    go_ret
    exact ⟨rfl, below_add hB hb hB.size⟩
end Go.Proofs.Ytgckofoaiojocaa
