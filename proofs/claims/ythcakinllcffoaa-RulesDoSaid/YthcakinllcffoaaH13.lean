
import Derived.Test.YthcakinllcffoaaH11
import Derived.Test.YthcakinllcffoaaH12
/- H13: great; the calls as the laws take them -/
namespace Go.Proofs.Ythcakinllcffoaa
open Go.RowKit
set_option linter.unusedVariables false

def gt1 (nk np n1 : Nat) : Bool := decide (64 < nk) || decide (100 < np) || decide (100 < n1)
set_option maxRecDepth 100000 in
theorem great1_any (ka : Option Addr) (nk kc : Nat) (pa : Option Addr) (np pc : Nat) (a1 : Option Addr) (n1 c1 : Nat) (hk : nk ≤ 9223372036854775807) (hp : np ≤ 9223372036854775807) (h1 : n1 ≤ 9223372036854775807) (W : World) :
    Calls Try.prog 7 #[.slice ka nk kc, .slice pa np pc, .slice (some ⟨W.heap.size, 0, none⟩) 1 1] (W.alloc (.cells #[.slice a1 n1 c1] 24)) fun e w' => e = .returned (.bool (gt1 nk np n1)) ∧ w' = W.alloc (.cells #[.slice a1 n1 c1] 24) := by
  unfold gt1
  by_cases q0 : 64 < nk
  · have d0 : decide ((64 : Int) < (nk : Int)) = true := by rw [decide_eq_true_iff]; omega
    rw [ decide_eq_true q0]
    simp only [Bool.true_or]
    clear q0
    go_enter Try.func7, Try.ntmps7
    go_wp2
    go_ret
    exact ⟨rfl, rfl⟩
  have d0 : decide ((64 : Int) < (nk : Int)) = false := by rw [decide_eq_false_iff_not]; omega
  by_cases q1 : 100 < np
  · have d1 : decide ((100 : Int) < (np : Int)) = true := by rw [decide_eq_true_iff]; omega
    rw [decide_eq_false q0, decide_eq_true q1]
    simp only [Bool.or_true, Bool.true_or]
    clear q0 q1
    go_enter Try.func7, Try.ntmps7
    go_wp2
    go_ret
    exact ⟨rfl, rfl⟩
  have d1 : decide ((100 : Int) < (np : Int)) = false := by rw [decide_eq_false_iff_not]; omega
  by_cases q2 : 100 < n1
  · have d2 : decide ((100 : Int) < (n1 : Int)) = true := by rw [decide_eq_true_iff]; omega
    rw [decide_eq_false q0, decide_eq_false q1, decide_eq_true q2]
    simp only [Bool.or_true]
    clear q0 q1 q2
    go_enter Try.func7, Try.ntmps7
    go_wp2
    refine wp_loop_rounds 1 ?_
    rw [rounds_succ]
    go_wp2
    go_ret
    exact ⟨rfl, rfl⟩
  have d2 : decide ((100 : Int) < (n1 : Int)) = false := by rw [decide_eq_false_iff_not]; omega
  rw [decide_eq_false q0, decide_eq_false q1, decide_eq_false q2]
  simp only [Bool.or_self]
  clear q0 q1 q2
  go_enter Try.func7, Try.ntmps7
  go_wp2
  refine wp_loop_rounds 2 ?_
  rw [rounds_succ]
  go_wp2
  rw [rounds_succ]
  go_wp2
  go_ret
  exact ⟨rfl, rfl⟩
def gt2 (nk np n1 n2 : Nat) : Bool := decide (64 < nk) || decide (100 < np) || decide (100 < n1) || decide (100 < n2)
set_option maxRecDepth 100000 in
theorem great2_any (ka : Option Addr) (nk kc : Nat) (pa : Option Addr) (np pc : Nat) (a1 : Option Addr) (n1 c1 : Nat) (a2 : Option Addr) (n2 c2 : Nat) (hk : nk ≤ 9223372036854775807) (hp : np ≤ 9223372036854775807) (h1 : n1 ≤ 9223372036854775807) (h2 : n2 ≤ 9223372036854775807) (W : World) :
    Calls Try.prog 7 #[.slice ka nk kc, .slice pa np pc, .slice (some ⟨W.heap.size, 0, none⟩) 2 2] (W.alloc (.cells #[.slice a1 n1 c1, .slice a2 n2 c2] 24)) fun e w' => e = .returned (.bool (gt2 nk np n1 n2)) ∧ w' = W.alloc (.cells #[.slice a1 n1 c1, .slice a2 n2 c2] 24) := by
  unfold gt2
  by_cases q0 : 64 < nk
  · have d0 : decide ((64 : Int) < (nk : Int)) = true := by rw [decide_eq_true_iff]; omega
    rw [ decide_eq_true q0]
    simp only [Bool.true_or]
    clear q0
    go_enter Try.func7, Try.ntmps7
    go_wp2
    go_ret
    exact ⟨rfl, rfl⟩
  have d0 : decide ((64 : Int) < (nk : Int)) = false := by rw [decide_eq_false_iff_not]; omega
  by_cases q1 : 100 < np
  · have d1 : decide ((100 : Int) < (np : Int)) = true := by rw [decide_eq_true_iff]; omega
    rw [decide_eq_false q0, decide_eq_true q1]
    simp only [Bool.or_true, Bool.true_or]
    clear q0 q1
    go_enter Try.func7, Try.ntmps7
    go_wp2
    go_ret
    exact ⟨rfl, rfl⟩
  have d1 : decide ((100 : Int) < (np : Int)) = false := by rw [decide_eq_false_iff_not]; omega
  by_cases q2 : 100 < n1
  · have d2 : decide ((100 : Int) < (n1 : Int)) = true := by rw [decide_eq_true_iff]; omega
    rw [decide_eq_false q0, decide_eq_false q1, decide_eq_true q2]
    simp only [Bool.or_true, Bool.true_or]
    clear q0 q1 q2
    go_enter Try.func7, Try.ntmps7
    go_wp2
    refine wp_loop_rounds 1 ?_
    rw [rounds_succ]
    go_wp2
    go_ret
    exact ⟨rfl, rfl⟩
  have d2 : decide ((100 : Int) < (n1 : Int)) = false := by rw [decide_eq_false_iff_not]; omega
  by_cases q3 : 100 < n2
  · have d3 : decide ((100 : Int) < (n2 : Int)) = true := by rw [decide_eq_true_iff]; omega
    rw [decide_eq_false q0, decide_eq_false q1, decide_eq_false q2, decide_eq_true q3]
    simp only [Bool.or_true]
    clear q0 q1 q2 q3
    go_enter Try.func7, Try.ntmps7
    go_wp2
    refine wp_loop_rounds 2 ?_
    rw [rounds_succ]
    go_wp2
    rw [rounds_succ]
    go_wp2
    go_ret
    exact ⟨rfl, rfl⟩
  have d3 : decide ((100 : Int) < (n2 : Int)) = false := by rw [decide_eq_false_iff_not]; omega
  rw [decide_eq_false q0, decide_eq_false q1, decide_eq_false q2, decide_eq_false q3]
  simp only [Bool.or_self]
  clear q0 q1 q2 q3
  go_enter Try.func7, Try.ntmps7
  go_wp2
  refine wp_loop_rounds 3 ?_
  rw [rounds_succ]
  go_wp2
  rw [rounds_succ]
  go_wp2
  rw [rounds_succ]
  go_wp2
  go_ret
  exact ⟨rfl, rfl⟩
end Go.Proofs.Ythcakinllcffoaa
