/-
  Whatever the input: ValueOrder returns true, and the input reads afterwards as it read before. No condition beside the row's own.
-/
import Derived.Test.YtgckofoaiojocaaRows
import Derived.Test.YtgckofoaiojocaaY20
import Derived.Test.YtgckofoaiojocaaYV
import Derived.WalkKit
import Derived.ProofKit
import Derived.OpenShut
import Derived.ShutString
import Derived.ChangeOld
import Derived.Below
import Derived.SizedLaws
namespace Go.Proofs.Ytgckofoaiojocaa.valueOrder
open Go.ChangeShapes Go.WideShapes Go.ChangeAt Go.RowKit
open Go.ChangeMaps (open_string shut_string)
set_option linter.unusedVariables false

theorem own : ownKnob Try.prog.godebug = none := by kernel_rfl

theorem walk (k0 n0 f0 : Int) (s0 : ByteArray) (k1 n1 f1 : Int) (s1 : ByteArray) (k2 n2 f2 : Int) (s2 : ByteArray) (w0 : ValW k0 n0 f0 s0) (z0 : s0.size ≤ 140737488355328) (w1 : ValW k1 n1 f1 s1) (z1 : s1.size ≤ 140737488355328) (w2 : ValW k2 n2 f2 s2) (z2 : s2.size ≤ 140737488355328) (w : World) :
    Calls Try.prog 5 #[val k0 n0 f0 s0, val k1 n1 f1 s1, val k2 n2 f2 s2] w fun e w' => e = .returned (.bool true) ∧ Below w.heap.size w w' := by
  have b0 := Go.bounds_u64 w0.f
  have b1 := Go.bounds_u64 w1.f
  have b2 := Go.bounds_u64 w2.f
  exact order_walk k0 n0 f0 s0 k1 n1 f1 s1 k2 n2 f2 s2 w b0.1 (by omega) b1.1 (by omega) b2.1 (by omega) z0 z1 z2

set_option maxRecDepth 100000 in
theorem lifted (os : Os) (started : os.Started) (H : Type) (enc : TypeId × Value → H) :
    ReturnsInHanded {} Try.checked os 5 .any (Rows.valueOrderSpec.pre6 enc Try.prog Try.f5 Rows.valueOrderRow.domain false) (Rows.valueOrderSpec.post enc Try.prog Try.f5 false true false false) := by
  refine returnsInHanded_of_change_sized (C := Try.checked) own started (by kernel_rfl) Try.func5
    (ChangeSpec.witness6 (enc := enc) (C := Try.checked) false ⟨#[], #[.agg #[.int .u8 0, .int .i64 0, .int .u64 0, .string ⟨#[]⟩], .agg #[.int .u8 0, .int .i64 0, .int .u64 0, .string ⟨#[]⟩], .agg #[.int .u8 0, .int .i64 0, .int .u64 0, .string ⟨#[]⟩]], []⟩ 8 (by kernel_rfl) (by kernel_rfl) (by kernel_rfl) (by kernel_rfl)) ?_
  intro W base args ds gs before hval0 hW hcnd hsz _
  have hval : ∀ (j : Nat) t v, Try.f5.params[j]? = some t → args[j]? = some v → Value.okWide Try.prog W .any base t v := hval0
  have hW' := hW
  obtain ⟨p, q, hA0, hV, rfl, hfz, hnd⟩ := hW
  have hA : DataW.TrodAll enc Try.prog W 0 (fun _ => true) true Try.f5.params.toList args.toList ds p := hA0
  rw [Try.params5] at hA hval
  obtain ⟨v0, vs0, d0, ds0, p0, q0, hargs, rfl, rfl, h0, r0⟩ := trodAll_cons hA
  obtain ⟨v1, vs1, d1, ds1, p1, q1, rfl, rfl, rfl, h1, r1⟩ := trodAll_cons r0
  obtain ⟨v2, vs2, d2, ds2, p2, q2, rfl, rfl, rfl, h2, r2⟩ := trodAll_cons r1
  obtain ⟨rfl, rfl, rfl⟩ := trodAll_nil r2
  obtain rfl : args = #[v0, v1, v2] := by cases args; simp_all
  obtain ⟨rfl, rfl⟩ := trodVars_none hV
  obtain ⟨k0, n0, f0, s0, rfl, rfl, rfl, w0⟩ := open_val (hval 0 24 v0 rfl rfl) h0
  obtain ⟨k1, n1, f1, s1, rfl, rfl, rfl, w1⟩ := open_val (hval 1 24 v1 rfl rfl) h1
  obtain ⟨k2, n2, f2, s2, rfl, rfl, rfl, w2⟩ := open_val (hval 2 24 v2 rfl rfl) h2
  clear hA0 hval0
  refine (walk k0 n0 f0 s0 k1 n1 f1 s1 k2 n2 f2 s2 w0 (sized_val hsz (j := 0) (by rw [Try.params5]; rfl) rfl) w1 (sized_val hsz (j := 1) (by rw [Try.params5]; rfl) rfl) w2 (sized_val hsz (j := 2) (by rw [Try.params5]; rfl) rfl) W).mono fun e W' ⟨he, bel⟩ => ?_
  subst he
  exact ⟨_, rfl, _, _, _, [], _, [], hW', trodAll_mk1 (shut_bool Try.underlying4 _), (trodAll_cons_mk (shut_val w0) (trodAll_cons_mk (shut_val w1) (trodAll_cons_mk (shut_val w2) trodAll_mk0))), rfl, bel.frame _, fun h => by cases h⟩

theorem over : Rows.valueOrderRow.holds Try.pinned (OpenSpec.ofChange Rows.valueOrderSpec) :=
  OpenClaim.holds_of_wide 5 Try.f5 rfl rfl rfl rfl rfl rfl rfl ⟨rfl, rfl, rfl, rfl, rfl⟩ rfl rfl rfl rfl rfl (by kernel_rfl) Try.func5 (by kernel_rfl)
    (of_decide_eq_true (by kernel_rfl)) (by unfold Func.isWrapper; first | (rw [if_pos (by decide +kernel)]; kernel_rfl) | (rw [if_neg (by decide +kernel)]; exact ⟨rfl, rfl⟩))
    (fun os started H enc _ => lifted os started H enc)

theorem proved : Rows.ValueOrderSaid :=
  over
end Go.Proofs.Ytgckofoaiojocaa.valueOrder
