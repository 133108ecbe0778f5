
import Derived.Test.YtgckofoaiojocaaYM5
import Derived.Test.YtgckofoaiojocaaY17
import Derived.Test.YtgckofoaiojocaaY18
import Derived.Test.YtgckofoaiojocaaY19
namespace Go.Proofs.Ytgckofoaiojocaa
open Go.RowKit
set_option linter.unusedVariables false

theorem may_is {k n f : Int} {s : ByteArray} {b : Bool} (h0 : 0 ≤ f) (h1 : f < 18446744073709551616) (hm : vmay k n f s = b) (w : World) :
    Calls Try.prog 13 #[val k n f s] w fun e w' => e = .returned (.bool b) ∧ Below w.heap.size w w' := by
  rw [← hm]; exact vmay_any k n f s w h0 h1
theorem less_is {k n f : Int} {s : ByteArray} {k' n' f' : Int} {s' : ByteArray} {b : Bool} (h0 : 0 ≤ f) (h1 : f < 18446744073709551616) (g0 : 0 ≤ f') (g1 : f' < 18446744073709551616) (hm : vless k n f s k' n' f' s' = b) (w : World) :
    Calls Try.prog 19 #[val k n f s, val k' n' f' s'] w fun e w' => e = .returned (.bool b) ∧ Below w.heap.size w w' := by
  rw [← hm]; exact less_any k n f s k' n' f' s' w h0 h1 g0 g1
theorem alike_symm {k n f : Int} {s : ByteArray} {k' n' f' : Int} {s' : ByteArray} (h : alikeB k n f s k' n' f' s' = true) : alikeB k' n' f' s' k n f s = true := by
  obtain ⟨a, b, c, d⟩ := alike_iff.1 h
  exact alike_iff.2 ⟨a.symm, b.symm, c.symm, d.symm⟩
theorem num_no {k n f : Int} {s : ByteArray} {k' n' f' : Int} {s' : ByteArray} (h0 : 0 ≤ f) (h1 : f < 18446744073709551616) (g0 : 0 ≤ f') (g1 : f' < 18446744073709551616) (hp : kless k n f s k' n' f' s' = false) :
    numOk k n f s = true → numOk k' n' f' s' = true → (k == k') = true → (FloatKind.f64.format.order (numF k n f s) (numF k' n' f' s') == some .lt) = true → False := by
  intro o1 o2 hk h
  obtain rfl : k = k' := by simpa using hk
  rw [num_less h0 h1 g0 g1 o1 o2 h] at hp
  cases hp

theorem order_walk (k n f : Int) (s : ByteArray) (k' n' f' : Int) (s' : ByteArray) (k2 n2 f2 : Int) (s2 : ByteArray) (w : World)
    (a0 : 0 ≤ f) (a1 : f < 18446744073709551616) (b0 : 0 ≤ f') (b1 : f' < 18446744073709551616) (c0 : 0 ≤ f2) (c1 : f2 < 18446744073709551616)
    (w0 : s.size ≤ 140737488355328) (w1 : s'.size ≤ 140737488355328) (w2 : s2.size ≤ 140737488355328) :
    Calls Try.prog 5 #[val k n f s, val k' n' f' s', val k2 n2 f2 s2] w fun e w' => e = .returned (.bool true) ∧ Below w.heap.size w w' := by
  by_cases hl : s.size + s'.size + s2.size ≤ 3000
  · cases ma : vmay k n f s
    · exact order_no_a k n f s k' n' f' s' k2 n2 f2 s2 w (may_is a0 a1 ma) (less_is a0 a1 b0 b1 (vl_f ma)) hl
    cases mb : vmay k' n' f' s'
    · exact order_no_b k n f s k' n' f' s' k2 n2 f2 s2 w (may_is a0 a1 ma) (may_is b0 b1 mb) (less_is a0 a1 b0 b1 (vl_tf ma mb)) hl
    cases mc : vmay k2 n2 f2 s2
    · exact order_no_c k n f s k' n' f' s' k2 n2 f2 s2 w (may_is a0 a1 ma) (may_is b0 b1 mb) (may_is c0 c1 mc) hl
    have vab := vl_tt (n := n) ma mb
    have vba := vl_tt (n := n') mb ma
    have vbc := vl_tt (n := n') mb mc
    have vac := vl_tt (n := n) ma mc
    have NA := fun w => number_any k n f s w a0 a1
    have NB := fun w => number_any k' n' f' s' w b0 b1
    rcases kless_tri a0 a1 b0 b1 ma mb with h | h | h
    · have hq := kless_asym h
      have he : alikeB k n f s k' n' f' s' = false := by
        cases he : alikeB k n f s k' n' f' s'
        · rfl
        · rw [kless_irr he] at h; cases h
      cases hr : kless k' n' f' s' k2 n2 f2 s2
      · exact order_one k n f s k' n' f' s' k2 n2 f2 s2 w _ _ _ _ (may_is a0 a1 ma) (may_is b0 b1 mb) (may_is c0 c1 mc) (less_is a0 a1 b0 b1 (vab.trans h)) (less_is b0 b1 a0 a1 (vba.trans hq)) (less_is b0 b1 c0 c1 (vbc.trans hr)) NA NB he hl
      · exact order_both k n f s k' n' f' s' k2 n2 f2 s2 w _ _ _ _ (may_is a0 a1 ma) (may_is b0 b1 mb) (may_is c0 c1 mc) (less_is a0 a1 b0 b1 (vab.trans h)) (less_is b0 b1 a0 a1 (vba.trans hq)) (less_is b0 b1 c0 c1 (vbc.trans hr)) (less_is a0 a1 c0 c1 (vac.trans (kless_trans h hr))) NA NB he hl
    · have hp := kless_asym h
      have he : alikeB k n f s k' n' f' s' = false := by
        cases he : alikeB k n f s k' n' f' s'
        · rfl
        · rw [kless_irr (alike_symm he)] at h; cases h
      exact order_back k n f s k' n' f' s' k2 n2 f2 s2 w _ _ _ _ (may_is a0 a1 ma) (may_is b0 b1 mb) (may_is c0 c1 mc) (less_is a0 a1 b0 b1 (vab.trans hp)) (less_is b0 b1 a0 a1 (vba.trans h)) NA NB he hl (num_no a0 a1 b0 b1 hp)
    · have hp := kless_irr h
      have hq := kless_irr (alike_symm h)
      exact order_same k n f s k' n' f' s' k2 n2 f2 s2 w _ _ _ _ (may_is a0 a1 ma) (may_is b0 b1 mb) (may_is c0 c1 mc) (less_is a0 a1 b0 b1 (vab.trans hp)) (less_is b0 b1 a0 a1 (vba.trans hq)) NA NB h hl (num_no a0 a1 b0 b1 hp)
  · exact order_long k n f s k' n' f' s' k2 n2 f2 s2 w hl w0 w1 w2
end Go.Proofs.Ytgckofoaiojocaa
