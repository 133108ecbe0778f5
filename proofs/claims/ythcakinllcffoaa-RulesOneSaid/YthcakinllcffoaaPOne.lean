/-
  Stage 14, rules. RulesOne: behind a completed patch a set has of each group that the patch sets just the one key of it, with its value; completing again changes nothing; a completed patch may be, where the patch may; a patch at odds is refused with none. Conditions: none beside the row's own.
-/
import Derived.Test.YthcakinllcffoaaRows
import Derived.Test.YthcakinllcffoaaH17
import Derived.WalkKit
import Derived.ProofKit
import Derived.OpenShut
import Derived.ShutString
import Derived.ChangeOld
import Derived.Below
import Derived.SizedLaws
import Derived.Carry
import Derived.JoinedCond
namespace Go.Proofs.Ythcakinllcffoaa.rulesOne
open Go.ChangeShapes Go.WideShapes Go.ChangeAt Go.RowKit
open Go.ChangeMaps (open_string shut_string)
set_option linter.unusedVariables false

theorem own : ownKnob Try.prog.godebug = none := by kernel_rfl
theorem laidOut : laidOutB Try.prog = true := by kernel_rfl
theorem walk (b0 : Option Addr) (len0 cap0 : Nat) (ks0 : List Key) (b1 : Option Addr) (len1 cap1 : Nat) (xs1 : List Chg) (b2 : Option Addr) (len2 cap2 : Nat) (xs2 : List Att) (w : World) (w0 : Krow w (.slice b0 len0 cap0) ks0) (y0 : ∀ k ∈ ks0, KeyW k) (w1 : Crow w (.slice b1 len1 cap1) xs1) (y1 : ∀ a ∈ xs1, ChgW a) (z1 : xs1.length * 56 ≤ 140737488355328 ∧ ∀ c ∈ xs1, c.s.size ≤ 140737488355328) (w2 : Arow w (.slice b2 len2 cap2) xs2) (y2 : ∀ a ∈ xs2, AttW a) :
    Calls Try.prog 4 #[.slice b0 len0 cap0, .slice b1 len1 cap1, .slice b2 len2 cap2] w fun e w' => e = .returned (.bool true) ∧ Below w.heap.size w w' := by
  exact one_walk _ _ _ ks0 xs1 xs2 w w0 y0 w1 y1 w2

set_option maxRecDepth 100000 in
theorem lifted (os : Os) (started : os.Started) (H : Type) (enc : TypeId × Value → H) :
    ReturnsInHanded {} Try.checked os 4 .any (Rows.rulesOneSpec.pre6 enc Try.prog Try.f4 Rows.rulesOneRow.domain false) (Rows.rulesOneSpec.post enc Try.prog Try.f4 false true false false) := by
  refine returnsInHanded_of_change_sized (C := Try.checked) own started (by kernel_rfl) Try.func4
    (ChangeSpec.witness6 (enc := enc) (C := Try.checked) false ⟨#[], #[.slice none 0 0, .slice none 0 0, .slice none 0 0], []⟩ 8 (by kernel_rfl) (by kernel_rfl) (by kernel_rfl) (by kernel_rfl)) ?_
  intro W base args ds gs before hval0 hW hcnd hsz _
  have hval : ∀ (j : Nat) t v, Try.f4.params[j]? = some t → args[j]? = some v → Value.okWide Try.prog W .any base t v := hval0
  have hW' := hW
  obtain ⟨p, q, hA0, hV, rfl, hfz, hnd⟩ := hW
  have hA : DataW.TrodAll enc Try.prog W 0 (fun _ => true) true Try.f4.params.toList args.toList ds p := hA0
  rw [Try.params4] at hA hval
  obtain ⟨v0, vs0, d0, ds0, p0, q0, hargs, rfl, rfl, h0, r0⟩ := trodAll_cons hA
  obtain ⟨v1, vs1, d1, ds1, p1, q1, rfl, rfl, rfl, h1, r1⟩ := trodAll_cons r0
  obtain ⟨v2, vs2, d2, ds2, p2, q2, rfl, rfl, rfl, h2, r2⟩ := trodAll_cons r1
  obtain ⟨rfl, rfl, rfl⟩ := trodAll_nil r2
  obtain rfl : args = #[v0, v1, v2] := by cases args; simp_all
  obtain ⟨rfl, rfl⟩ := trodVars_none hV
  obtain ⟨b0, len0, cap0, rfl⟩ := okWide_slice Try.underlying22 (hval 0 22 v0 rfl rfl)
  have k0 := h0
  have lt0 : ∀ x ∈ p0, x.block < W.heap.size := by obtain ⟨m, hm⟩ := k0; exact DataW.trod_lt m _ _ _ hm
  obtain ⟨ks0, w0, y0⟩ : ∃ ks, Krow W (.slice b0 len0 cap0) ks ∧ ∀ k ∈ ks, KeyW k := by
    obtain ⟨fuel, hf⟩ := h0
    exact open_keys (by simpa [Value.cells] using hf)
  obtain ⟨b1, len1, cap1, rfl⟩ := okWide_slice Try.underlying23 (hval 1 23 v1 rfl rfl)
  have k1 := h1
  have lt1 : ∀ x ∈ p1, x.block < W.heap.size := by obtain ⟨m, hm⟩ := k1; exact DataW.trod_lt m _ _ _ hm
  obtain ⟨xs1, w1, y1, x1⟩ : ∃ xs, Crow W (.slice b1 len1 cap1) xs ∧ (∀ a ∈ xs, ChgW a) ∧ InC d1 xs := by
    obtain ⟨fuel, hf⟩ := h1
    exact open_chs (by simpa [Value.cells] using hf)
  obtain ⟨b2, len2, cap2, rfl⟩ := okWide_slice Try.underlying24 (hval 2 24 v2 rfl rfl)
  have k2 := h2
  have lt2 : ∀ x ∈ p2, x.block < W.heap.size := by obtain ⟨m, hm⟩ := k2; exact DataW.trod_lt m _ _ _ hm
  obtain ⟨xs2, w2, y2, x2⟩ : ∃ xs, Arow W (.slice b2 len2 cap2) xs ∧ (∀ a ∈ xs, AttW a) ∧ InA d2 xs := by
    obtain ⟨fuel, hf⟩ := h2
    exact open_ats (by simpa [Value.cells] using hf)
  clear hA0 hval0
  refine (walk b0 len0 cap0 ks0 b1 len1 cap1 xs1 b2 len2 cap2 xs2 W w0 y0 w1 y1 (sized_C hsz (j := 1) x1 (by rw [Try.params4]; rfl) rfl) w2 y2).mono fun e W' ⟨he, bel⟩ => ?_
  subst he
  exact ⟨_, rfl, _, _, _, [], _, [], hW', trodAll_mk1 (shut_bool Try.underlying4 _), (trodAll_cons_mk (Below.trod laidOut (by kernel_rfl) (of_decide_eq_true (by kernel_rfl)) k0 bel lt0) (trodAll_cons_mk (Below.trod laidOut (by kernel_rfl) (of_decide_eq_true (by kernel_rfl)) k1 bel lt1) (trodAll_cons_mk (Below.trod laidOut (by kernel_rfl) (of_decide_eq_true (by kernel_rfl)) k2 bel lt2) trodAll_mk0))), rfl, bel.frame _, fun h => by cases h⟩

theorem over : Rows.rulesOneRow.holds Try.pinned (OpenSpec.ofChange Rows.rulesOneSpec) :=
  OpenClaim.holds_of_wide 4 Try.f4 rfl rfl rfl rfl rfl rfl rfl ⟨rfl, rfl, rfl, rfl, rfl⟩ rfl rfl rfl rfl rfl (by kernel_rfl) Try.func4 (by kernel_rfl)
    (of_decide_eq_true (by kernel_rfl)) (by unfold Func.isWrapper; first | (rw [if_pos (by decide +kernel)]; kernel_rfl) | (rw [if_neg (by decide +kernel)]; exact ⟨rfl, rfl⟩))
    (fun os started H enc _ => lifted os started H enc)

theorem proved : Rows.RulesOneSaid :=
  over
end Go.Proofs.Ythcakinllcffoaa.rulesOne
