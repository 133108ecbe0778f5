
import Derived.Test.YtgckofoaiojocaaK
import Derived.Laws.StructEq
import Derived.Laws.Cover2
import Derived.Laws.FloatBits
import Derived.Laws.FloatArith
import Derived.Laws.Externs
namespace Go.Proofs.Ytgckofoaiojocaa
open Go.RowKit
set_option linter.unusedVariables false

/-- A value as the program lays it: kind, number, bits, text. -/
@[reducible] def val (k n f : Int) (s : ByteArray) : Value := .agg #[.int .u8 k, .int .i64 n, .int .u64 f, .string s]
@[reducible] def vcells (k n f : Int) (s : ByteArray) : Array Value := #[.int .u8 k, .int .i64 n, .int .u64 f, .string s]

theorem val_eql (k n f k' n' f' : Int) (s s' : ByteArray) (w : World) :
    (binOp .eql 24 (val k n f s) (val k' n' f' s')).run Try.prog w = .ok (.bool ((k == k') && (n == n') && (f == f') && (s.toList == s'.toList))) w := by
  have hS : Try.prog.underlying 24 = some (.struct (Try.prog.fieldsOf 24)) := by kernel_rfl
  have hp : Try.prog.stoodInHeld 24 = false := by kernel_rfl
  have u1 := Try.underlying5
  have u2 := Try.underlying2
  have u3 := Try.underlying22
  have u4 := Try.underlying9
  have a1 := Try.isAgg5
  have a2 := Try.isAgg2
  have a3 := Try.isAgg22
  have a4 := Try.isAgg9
  have z1 := Try.sizeOf5
  have z2 := Try.sizeOf2
  have z3 := Try.sizeOf22
  have z4 := Try.sizeOf9
  rw [run_eql_struct, show (10000 : Nat) = 9999 + 1 from rfl, run_equalIn_agg w 9999 24 _ _ hS hp]
  simp only [Program.fieldsOf, Try.underlying24]
  go_simp
  by_cases h1 : k = k' <;> by_cases h2 : n = n' <;> by_cases h3 : f = f' <;> by_cases h4 : s.toList = s'.toList <;> simp [h1, h2, h3, h4]

theorem bits_of (b : Nat) (w : World) : (callFunc 12 #[.float .f64 b]).run Try.prog w = .ok (.value (.int .u64 b)) w :=
  run_callFunc_extern Try.func12 (by kernel_rfl) (by kernel_rfl) (by kernel_rfl) (e := Extern.MathFloatBits.float64bits) (by kernel_rfl) _ _
theorem of_bits (n : Int) (w : World) : (callFunc 17 #[.int .u64 n]).run Try.prog w = .ok (.value (.float .f64 n.toNat)) w :=
  run_callFunc_extern Try.func17 (by kernel_rfl) (by kernel_rfl) (by kernel_rfl) (e := Extern.MathFloatBits.float64frombits) (by kernel_rfl) _ _
end Go.Proofs.Ytgckofoaiojocaa
