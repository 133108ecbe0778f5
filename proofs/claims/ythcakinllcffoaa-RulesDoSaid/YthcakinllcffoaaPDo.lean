/-
  Stage 14, rules. RulesDo: whatever patch is completed, set split, or stepped, and whatever is typed between two sets, is the document's answer; what was handed in stays, also where what was told is written over; of sets and patches whose keys do not rise all calls end. Conditions: none beside the row's own.
-/
import Derived.Test.YthcakinllcffoaaRows
import Derived.Test.YthcakinllcffoaaH18
import Derived.WalkKit
import Derived.ProofKit
import Derived.OpenShut
import Derived.ShutString
import Derived.ChangeOld
import Derived.Below
import Derived.SizedLaws
import Derived.Carry
import Derived.JoinedCond
namespace Go.Proofs.Ythcakinllcffoaa.rulesDo
open Go.ChangeShapes Go.WideShapes Go.ChangeAt Go.RowKit
open Go.ChangeMaps (open_string shut_string)
set_option linter.unusedVariables false

theorem own : ownKnob Try.prog.godebug = none := by kernel_rfl
theorem laidOut : laidOutB Try.prog = true := by kernel_rfl
theorem walk (b0 : Option Addr) (len0 cap0 : Nat) (ks0 : List Key) (b1 : Option Addr) (len1 cap1 : Nat) (xs1 : List Chg) (b2 : Option Addr) (len2 cap2 : Nat) (xs2 : List Att) (b3 : Option Addr) (len3 cap3 : Nat) (xs3 : List Att) (a4 : Int) (a5 : Int) (w : World) (w0 : Krow w (.slice b0 len0 cap0) ks0) (y0 : ∀ k ∈ ks0, KeyW k) (w1 : Crow w (.slice b1 len1 cap1) xs1) (y1 : ∀ a ∈ xs1, ChgW a) (z1 : xs1.length * 56 ≤ 140737488355328 ∧ ∀ c ∈ xs1, c.s.size ≤ 140737488355328) (w2 : Arow w (.slice b2 len2 cap2) xs2) (y2 : ∀ a ∈ xs2, AttW a) (w3 : Arow w (.slice b3 len3 cap3) xs3) (y3 : ∀ a ∈ xs3, AttW a) (w4 : (Lit.int .i64 a4).wf = true) (w5 : (Lit.int .i64 a5).wf = true) :
    Calls Try.prog 3 #[.slice b0 len0 cap0, .slice b1 len1 cap1, .slice b2 len2 cap2, .slice b3 len3 cap3, .int .i64 a4, .int .i64 a5] w fun e w' => e = .returned (.bool true) ∧ Below w.heap.size w w' := by
  exact do_walk _ _ _ _ ks0 xs1 xs2 xs3 a4 a5 w w0 y0 w1 y1 w2 y2 w3 y3 w4

set_option maxRecDepth 100000 in
theorem lifted (os : Os) (started : os.Started) (H : Type) (enc : TypeId × Value → H) :
    ReturnsInHanded {} Try.checked os 3 .any (Rows.rulesDoSpec.pre6 enc Try.prog Try.f3 Rows.rulesDoRow.domain false) (Rows.rulesDoSpec.post enc Try.prog Try.f3 false true false false) := by
  refine returnsInHanded_of_change_sized (C := Try.checked) own started (by kernel_rfl) Try.func3
    (ChangeSpec.witness6 (enc := enc) (C := Try.checked) false ⟨#[], #[.slice none 0 0, .slice none 0 0, .slice none 0 0, .slice none 0 0, .int .i64 0, .int .i64 0], []⟩ 8 (by kernel_rfl) (by kernel_rfl) (by kernel_rfl) (by kernel_rfl)) ?_
  intro W base args ds gs before hval0 hW hcnd hsz _
  have hval : ∀ (j : Nat) t v, Try.f3.params[j]? = some t → args[j]? = some v → Value.okWide Try.prog W .any base t v := hval0
  have hW' := hW
  obtain ⟨p, q, hA0, hV, rfl, hfz, hnd⟩ := hW
  have hA : DataW.TrodAll enc Try.prog W 0 (fun _ => true) true Try.f3.params.toList args.toList ds p := hA0
  rw [Try.params3] at hA hval
  obtain ⟨v0, vs0, d0, ds0, p0, q0, hargs, rfl, rfl, h0, r0⟩ := trodAll_cons hA
  obtain ⟨v1, vs1, d1, ds1, p1, q1, rfl, rfl, rfl, h1, r1⟩ := trodAll_cons r0
  obtain ⟨v2, vs2, d2, ds2, p2, q2, rfl, rfl, rfl, h2, r2⟩ := trodAll_cons r1
  obtain ⟨v3, vs3, d3, ds3, p3, q3, rfl, rfl, rfl, h3, r3⟩ := trodAll_cons r2
  obtain ⟨v4, vs4, d4, ds4, p4, q4, rfl, rfl, rfl, h4, r4⟩ := trodAll_cons r3
  obtain ⟨v5, vs5, d5, ds5, p5, q5, rfl, rfl, rfl, h5, r5⟩ := trodAll_cons r4
  obtain ⟨rfl, rfl, rfl⟩ := trodAll_nil r5
  obtain rfl : args = #[v0, v1, v2, v3, v4, v5] := by cases args; simp_all
  obtain ⟨rfl, rfl⟩ := trodVars_none hV
  obtain ⟨b0, len0, cap0, rfl⟩ := okWide_slice Try.underlying22 (hval 0 22 v0 rfl rfl)
  have k0 := h0
  have lt0 : ∀ x ∈ p0, x.block < W.heap.size := by obtain ⟨m, hm⟩ := k0; exact DataW.trod_lt m _ _ _ hm
  obtain ⟨ks0, w0, y0⟩ : ∃ ks, Krow W (.slice b0 len0 cap0) ks ∧ ∀ k ∈ ks, KeyW k := by
    obtain ⟨fuel, hf⟩ := h0
    exact open_keys (by simpa [Value.cells] using hf)
  obtain ⟨b1, len1, cap1, rfl⟩ := okWide_slice Try.underlying23 (hval 1 23 v1 rfl rfl)
  have k1 := h1
  have lt1 : ∀ x ∈ p1, x.block < W.heap.size := by obtain ⟨m, hm⟩ := k1; exact DataW.trod_lt m _ _ _ hm
  obtain ⟨xs1, w1, y1, x1⟩ : ∃ xs, Crow W (.slice b1 len1 cap1) xs ∧ (∀ a ∈ xs, ChgW a) ∧ InC d1 xs := by
    obtain ⟨fuel, hf⟩ := h1
    exact open_chs (by simpa [Value.cells] using hf)
  obtain ⟨b2, len2, cap2, rfl⟩ := okWide_slice Try.underlying24 (hval 2 24 v2 rfl rfl)
  have k2 := h2
  have lt2 : ∀ x ∈ p2, x.block < W.heap.size := by obtain ⟨m, hm⟩ := k2; exact DataW.trod_lt m _ _ _ hm
  obtain ⟨xs2, w2, y2, x2⟩ : ∃ xs, Arow W (.slice b2 len2 cap2) xs ∧ (∀ a ∈ xs, AttW a) ∧ InA d2 xs := by
    obtain ⟨fuel, hf⟩ := h2
    exact open_ats (by simpa [Value.cells] using hf)
  obtain ⟨b3, len3, cap3, rfl⟩ := okWide_slice Try.underlying24 (hval 3 24 v3 rfl rfl)
  have k3 := h3
  have lt3 : ∀ x ∈ p3, x.block < W.heap.size := by obtain ⟨m, hm⟩ := k3; exact DataW.trod_lt m _ _ _ hm
  obtain ⟨xs3, w3, y3, x3⟩ : ∃ xs, Arow W (.slice b3 len3 cap3) xs ∧ (∀ a ∈ xs, AttW a) ∧ InA d3 xs := by
    obtain ⟨fuel, hf⟩ := h3
    exact open_ats (by simpa [Value.cells] using hf)
  obtain ⟨a4, rfl, rfl, rfl, w4⟩ := open_int Try.underlying3 (hval 4 3 v4 rfl rfl) h4
  obtain ⟨a5, rfl, rfl, rfl, w5⟩ := open_int Try.underlying3 (hval 5 3 v5 rfl rfl) h5
  clear hA0 hval0
  refine (walk b0 len0 cap0 ks0 b1 len1 cap1 xs1 b2 len2 cap2 xs2 b3 len3 cap3 xs3 a4 a5 W w0 y0 w1 y1 (sized_C hsz (j := 1) x1 (by rw [Try.params3]; rfl) rfl) w2 y2 w3 y3 w4 w5).mono fun e W' ⟨he, bel⟩ => ?_
  subst he
  exact ⟨_, rfl, _, _, _, [], _, [], hW', trodAll_mk1 (shut_bool Try.underlying4 _), (trodAll_cons_mk (Below.trod laidOut (by kernel_rfl) (of_decide_eq_true (by kernel_rfl)) k0 bel lt0) (trodAll_cons_mk (Below.trod laidOut (by kernel_rfl) (of_decide_eq_true (by kernel_rfl)) k1 bel lt1) (trodAll_cons_mk (Below.trod laidOut (by kernel_rfl) (of_decide_eq_true (by kernel_rfl)) k2 bel lt2) (trodAll_cons_mk (Below.trod laidOut (by kernel_rfl) (of_decide_eq_true (by kernel_rfl)) k3 bel lt3) (trodAll_cons_mk (shut_int Try.underlying3 w4) (trodAll_cons_mk (shut_int Try.underlying3 w5) trodAll_mk0)))))), rfl, bel.frame _, fun h => by cases h⟩

theorem over : Rows.rulesDoRow.holds Try.pinned (OpenSpec.ofChange Rows.rulesDoSpec) :=
  OpenClaim.holds_of_wide 3 Try.f3 rfl rfl rfl rfl rfl rfl rfl ⟨rfl, rfl, rfl, rfl, rfl⟩ rfl rfl rfl rfl rfl (by kernel_rfl) Try.func3 (by kernel_rfl)
    (of_decide_eq_true (by kernel_rfl)) (by unfold Func.isWrapper; first | (rw [if_pos (by decide +kernel)]; kernel_rfl) | (rw [if_neg (by decide +kernel)]; exact ⟨rfl, rfl⟩))
    (fun os started H enc _ => lifted os started H enc)

theorem proved : Rows.RulesDoSaid :=
  over
end Go.Proofs.Ythcakinllcffoaa.rulesDo
