/-
  Whatever the input: ValueMay returns true, and the input reads afterwards as it read before. No condition beside the row's own.
-/
import Derived.Test.YtgckofoaiojocaaRows
import Derived.Test.YtgckofoaiojocaaY11
import Derived.Test.YtgckofoaiojocaaY12
import Derived.Test.YtgckofoaiojocaaYV
import Derived.WalkKit
import Derived.ProofKit
import Derived.OpenShut
import Derived.ShutString
import Derived.ChangeOld
import Derived.Below
namespace Go.Proofs.Ytgckofoaiojocaa.valueMay
open Go.ChangeShapes Go.WideShapes Go.ChangeAt Go.RowKit
open Go.ChangeMaps (open_string shut_string)
set_option linter.unusedVariables false

theorem own : ownKnob Try.prog.godebug = none := by kernel_rfl

theorem walk (k0 n0 f0 : Int) (s0 : ByteArray) (a1 : Int) (a2 : Int) (s3 : ByteArray) (a4 : Bool) (w0 : ValW k0 n0 f0 s0) (w1 : (Lit.int .u64 a1).wf = true) (w2 : (Lit.int .i64 a2).wf = true) (w3 : s3.size ≤ maxLen) (w : World) :
    Calls Try.prog 3 #[val k0 n0 f0 s0, .int .u64 a1, .int .i64 a2, .string s3, .bool a4] w fun e w' => e = .returned (.bool true) ∧ Below w.heap.size w w' := by
  have b0 := Go.bounds_u64 w0.f
  have b1 := Go.bounds_u64 w1
  by_cases hl : s0.size ≤ 1000 ∧ s3.size ≤ 1000
  · obtain ⟨l1, l2⟩ := hl
    have g1 : f0 < 18446744073709551616 := by omega
    have g2 : a1 < 18446744073709551616 := by omega
    cases a4 <;> cases ht : textB s3 <;> cases hn : numOk k0 n0 f0 s0
    · exact may_walk_fff k0 n0 f0 s0 a1 a2 s3 w b0.1 g1 b1.1 g2 l1 l2 ht hn
    · exact may_walk_fft k0 n0 f0 s0 a1 a2 s3 w b0.1 g1 b1.1 g2 l1 l2 ht hn
    · exact may_walk_ftf k0 n0 f0 s0 a1 a2 s3 w b0.1 g1 b1.1 g2 l1 l2 ht hn
    · exact may_walk_ftt k0 n0 f0 s0 a1 a2 s3 w b0.1 g1 b1.1 g2 l1 l2 ht hn
    · exact may_walk_tff k0 n0 f0 s0 a1 a2 s3 w b0.1 g1 b1.1 g2 l1 l2 ht hn
    · exact may_walk_tft k0 n0 f0 s0 a1 a2 s3 w b0.1 g1 b1.1 g2 l1 l2 ht hn
    · exact may_walk_ttf k0 n0 f0 s0 a1 a2 s3 w b0.1 g1 b1.1 g2 l1 l2 ht hn
    · exact may_walk_ttt k0 n0 f0 s0 a1 a2 s3 w b0.1 g1 b1.1 g2 l1 l2 ht hn
  · exact may_long k0 n0 f0 s0 a1 a2 s3 a4 w hl

set_option maxRecDepth 100000 in
theorem lifted (os : Os) (started : os.Started) (H : Type) (enc : TypeId × Value → H) :
    ReturnsInHanded {} Try.checked os 3 .any (Rows.valueMaySpec.pre6 enc Try.prog Try.f3 Rows.valueMayRow.domain false) (Rows.valueMaySpec.post enc Try.prog Try.f3 false true false false) := by
  refine returnsInHanded_of_change (C := Try.checked) own started (by kernel_rfl) Try.func3
    (ChangeSpec.witness6 (enc := enc) (C := Try.checked) false ⟨#[], #[.agg #[.int .u8 0, .int .i64 0, .int .u64 0, .string ⟨#[]⟩], .int .u64 0, .int .i64 0, .string ⟨#[]⟩, .bool false], []⟩ 8 (by kernel_rfl) (by kernel_rfl) (by kernel_rfl) (by kernel_rfl)) ?_
  intro W base args ds gs before hval0 hW hcnd _
  have hval : ∀ (j : Nat) t v, Try.f3.params[j]? = some t → args[j]? = some v → Value.okWide Try.prog W .any base t v := hval0
  have hW' := hW
  obtain ⟨p, q, hA0, hV, rfl, hfz, hnd⟩ := hW
  have hA : DataW.TrodAll enc Try.prog W 0 (fun _ => true) true Try.f3.params.toList args.toList ds p := hA0
  rw [Try.params3] at hA hval
  obtain ⟨v0, vs0, d0, ds0, p0, q0, hargs, rfl, rfl, h0, r0⟩ := trodAll_cons hA
  obtain ⟨v1, vs1, d1, ds1, p1, q1, rfl, rfl, rfl, h1, r1⟩ := trodAll_cons r0
  obtain ⟨v2, vs2, d2, ds2, p2, q2, rfl, rfl, rfl, h2, r2⟩ := trodAll_cons r1
  obtain ⟨v3, vs3, d3, ds3, p3, q3, rfl, rfl, rfl, h3, r3⟩ := trodAll_cons r2
  obtain ⟨v4, vs4, d4, ds4, p4, q4, rfl, rfl, rfl, h4, r4⟩ := trodAll_cons r3
  obtain ⟨rfl, rfl, rfl⟩ := trodAll_nil r4
  obtain rfl : args = #[v0, v1, v2, v3, v4] := by cases args; simp_all
  obtain ⟨rfl, rfl⟩ := trodVars_none hV
  obtain ⟨k0, n0, f0, s0, rfl, rfl, rfl, w0⟩ := open_val (hval 0 24 v0 rfl rfl) h0
  obtain ⟨a1, rfl, rfl, rfl, w1⟩ := open_int Try.underlying22 (hval 1 22 v1 rfl rfl) h1
  obtain ⟨a2, rfl, rfl, rfl, w2⟩ := open_int Try.underlying2 (hval 2 2 v2 rfl rfl) h2
  obtain ⟨s3, rfl, rfl, rfl, w3⟩ := open_string Try.underlying9 (hval 3 9 v3 rfl rfl) h3
  obtain ⟨a4, rfl, rfl, rfl⟩ := open_bool Try.underlying4 (hval 4 4 v4 rfl rfl) h4
  clear hA0 hval0
  refine (walk k0 n0 f0 s0 a1 a2 s3 a4 w0 w1 w2 w3 W).mono fun e W' ⟨he, bel⟩ => ?_
  subst he
  exact ⟨_, rfl, _, _, _, [], _, [], hW', trodAll_mk1 (shut_bool Try.underlying4 _), (trodAll_cons_mk (shut_val w0) (trodAll_cons_mk (shut_int Try.underlying22 w1) (trodAll_cons_mk (shut_int Try.underlying2 w2) (trodAll_cons_mk (shut_string Try.underlying9 w3) (trodAll_cons_mk (shut_bool Try.underlying4 _) trodAll_mk0))))), rfl, bel.frame _, fun h => by cases h⟩

theorem over : Rows.valueMayRow.holds Try.pinned (OpenSpec.ofChange Rows.valueMaySpec) :=
  OpenClaim.holds_of_wide 3 Try.f3 rfl rfl rfl rfl rfl rfl rfl ⟨rfl, rfl, rfl, rfl, rfl⟩ rfl rfl rfl rfl rfl (by kernel_rfl) Try.func3 (by kernel_rfl)
    (of_decide_eq_true (by kernel_rfl)) (by unfold Func.isWrapper; first | (rw [if_pos (by decide +kernel)]; kernel_rfl) | (rw [if_neg (by decide +kernel)]; exact ⟨rfl, rfl⟩))
    (fun os started H enc _ => lifted os started H enc)

theorem proved : Rows.ValueMaySaid :=
  over
end Go.Proofs.Ytgckofoaiojocaa.valueMay
