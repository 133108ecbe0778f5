
import Derived.Test.YtgckofoaiojocaaY1
import Derived.Test.YtgckofoaiojocaaYM1
import Derived.Laws.Bits64
import Derived.Laws.Bits64b
namespace Go.Proofs.Ytgckofoaiojocaa
open Go.RowKit
set_option linter.unusedVariables false

theorem none_any (f : Int) (w : World) (h0 : 0 ≤ f) (h1 : f < 18446744073709551616) :
    Calls Try.prog 26 #[.int .u64 f] w fun e w' => e = .returned (.bool (nanI f)) ∧ w = w' := by
  go_enter Try.func26, Try.ntmps26
  go_wp2
  go_ret
  exact ⟨ret_bool (by unfold nanI; rfl), rfl⟩

theorem isnan_any (b : Nat) (w : World) :
    Calls Try.prog 28 #[.float .f64 b] w fun e w' => e = .returned (.bool (nanI b)) ∧ w = w' := by
  go_enter Try.func28, Try.ntmps28
  go_wp2
  go_ret
  exact ⟨ret_bool (nan_ne b), rfl⟩
end Go.Proofs.Ytgckofoaiojocaa
