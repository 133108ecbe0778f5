/-
  rubriclaw06.PatchStay returns true for every keys, two sets and two patches, and each reads afterwards as it read before. Conditions: the second form: what came in is of bulk at most 1048576; else none.
-/
import Derived.Test.YtkejebjppnhidaaRows
import Derived.Test.YtkejebjppnhidaaC14
import Derived.Test.YtkejebjppnhidaaS16
import Derived.Test.YtkejebjppnhidaaC23
import Derived.WalkKit
import Derived.ProofKit
import Derived.OpenShut
import Derived.ShutString
import Derived.ChangeOld
import Derived.Below
import Derived.SizedLaws
import Derived.Carry
import Derived.JoinedCond
namespace Go.Proofs.Ytkejebjppnhidaa.patchStay
open Go.ChangeShapes Go.WideShapes Go.ChangeAt Go.RowKit
open Go.ChangeMaps (open_string shut_string)
set_option linter.unusedVariables false

theorem own : ownKnob Try.prog.godebug = none := by kernel_rfl
theorem laidOut : laidOutB Try.prog = true := by kernel_rfl
theorem walk (b0 : Option Addr) (len0 cap0 : Nat) (ks0 : List Key) (b1 : Option Addr) (len1 cap1 : Nat) (xs1 : List Att) (b2 : Option Addr) (len2 cap2 : Nat) (xs2 : List Att) (b3 : Option Addr) (len3 cap3 : Nat) (xs3 : List Chg) (b4 : Option Addr) (len4 cap4 : Nat) (xs4 : List Chg) (w : World) (w0 : Krow w (.slice b0 len0 cap0) ks0) (y0 : ∀ k ∈ ks0, KeyW k) (w1 : Arow w (.slice b1 len1 cap1) xs1) (y1 : ∀ a ∈ xs1, AttW a) (z1 : totA xs1 ≤ 1048576) (w2 : Arow w (.slice b2 len2 cap2) xs2) (y2 : ∀ a ∈ xs2, AttW a) (z2 : totA xs2 ≤ 1048576) (w3 : Crow w (.slice b3 len3 cap3) xs3) (y3 : ∀ a ∈ xs3, ChgW a) (z3 : totC xs3 ≤ 1048576) (w4 : Crow w (.slice b4 len4 cap4) xs4) (y4 : ∀ a ∈ xs4, ChgW a) (z4 : totC xs4 ≤ 1048576) :
    Calls Try.prog 8 #[.slice b0 len0 cap0, .slice b1 len1 cap1, .slice b2 len2 cap2, .slice b3 len3 cap3, .slice b4 len4 cap4] w fun e w' => e = .returned (.bool true) ∧ Below w.heap.size w w' := by
  exact stay_walk _ _ _ b1 len1 cap1 b2 len2 cap2 ks0 xs1 xs2 xs3 xs4 w w0 y0 w1 y1 w2 y2 w3 y3 w4 y4 z1 z2 z3

set_option maxRecDepth 100000 in
theorem contract (H : Type) (enc : TypeId × Value → H) (W : World) (base : Nat) (args : Array Value) (ds gs : List (DataW H)) (before : List MemPlace)
    (hval0 : ∀ (j : Nat) t v, Try.f8.params[j]? = some t → args[j]? = some v → Value.okWide Try.prog W .any base t v)
    (hW : DataW.Whole enc Try.prog Try.f8.params.toList Rows.patchStaySpec.vars false W args.toList ds gs before) (hk : Rows.uptoSmall H (ds ++ gs) = true) :
    Calls Try.prog 8 args W fun e W' => ∃ v, e = .returned v ∧ Rows.patchStaySpec.post enc Try.prog Try.f8 false true false false W args v W' := by
  have hval : ∀ (j : Nat) t v, Try.f8.params[j]? = some t → args[j]? = some v → Value.okWide Try.prog W .any base t v := hval0
  have hW' := hW
  obtain ⟨p, q, hA0, hV, rfl, hfz, hnd⟩ := hW
  have hA : DataW.TrodAll enc Try.prog W 0 (fun _ => true) true Try.f8.params.toList args.toList ds p := hA0
  rw [Try.params8] at hA hval
  obtain ⟨v0, vs0, d0, ds0, p0, q0, hargs, rfl, rfl, h0, r0⟩ := trodAll_cons hA
  obtain ⟨v1, vs1, d1, ds1, p1, q1, rfl, rfl, rfl, h1, r1⟩ := trodAll_cons r0
  obtain ⟨v2, vs2, d2, ds2, p2, q2, rfl, rfl, rfl, h2, r2⟩ := trodAll_cons r1
  obtain ⟨v3, vs3, d3, ds3, p3, q3, rfl, rfl, rfl, h3, r3⟩ := trodAll_cons r2
  obtain ⟨v4, vs4, d4, ds4, p4, q4, rfl, rfl, rfl, h4, r4⟩ := trodAll_cons r3
  obtain ⟨rfl, rfl, rfl⟩ := trodAll_nil r4
  obtain rfl : args = #[v0, v1, v2, v3, v4] := by cases args; simp_all
  obtain ⟨rfl, rfl⟩ := trodVars_none hV
  obtain ⟨b0, len0, cap0, rfl⟩ := okWide_slice Try.underlying22 (hval 0 22 v0 rfl rfl)
  have k0 := h0
  have lt0 : ∀ x ∈ p0, x.block < W.heap.size := by obtain ⟨m, hm⟩ := k0; exact DataW.trod_lt m _ _ _ hm
  obtain ⟨ks0, w0, y0⟩ : ∃ ks, Krow W (.slice b0 len0 cap0) ks ∧ ∀ k ∈ ks, KeyW k := by
    obtain ⟨fuel, hf⟩ := h0
    exact open_keys (by simpa [Value.cells] using hf)
  obtain ⟨b1, len1, cap1, rfl⟩ := okWide_slice Try.underlying39 (hval 1 39 v1 rfl rfl)
  have k1 := h1
  have lt1 : ∀ x ∈ p1, x.block < W.heap.size := by obtain ⟨m, hm⟩ := k1; exact DataW.trod_lt m _ _ _ hm
  obtain ⟨xs1, w1, y1, x1⟩ : ∃ xs, Arow W (.slice b1 len1 cap1) xs ∧ (∀ a ∈ xs, AttW a) ∧ InA d1 xs := by
    obtain ⟨fuel, hf⟩ := h1
    exact open_ats (by simpa [Value.cells] using hf)
  obtain ⟨b2, len2, cap2, rfl⟩ := okWide_slice Try.underlying39 (hval 2 39 v2 rfl rfl)
  have k2 := h2
  have lt2 : ∀ x ∈ p2, x.block < W.heap.size := by obtain ⟨m, hm⟩ := k2; exact DataW.trod_lt m _ _ _ hm
  obtain ⟨xs2, w2, y2, x2⟩ : ∃ xs, Arow W (.slice b2 len2 cap2) xs ∧ (∀ a ∈ xs, AttW a) ∧ InA d2 xs := by
    obtain ⟨fuel, hf⟩ := h2
    exact open_ats (by simpa [Value.cells] using hf)
  obtain ⟨b3, len3, cap3, rfl⟩ := okWide_slice Try.underlying23 (hval 3 23 v3 rfl rfl)
  have k3 := h3
  have lt3 : ∀ x ∈ p3, x.block < W.heap.size := by obtain ⟨m, hm⟩ := k3; exact DataW.trod_lt m _ _ _ hm
  obtain ⟨xs3, w3, y3, x3⟩ : ∃ xs, Crow W (.slice b3 len3 cap3) xs ∧ (∀ a ∈ xs, ChgW a) ∧ InC d3 xs := by
    obtain ⟨fuel, hf⟩ := h3
    exact open_chs (by simpa [Value.cells] using hf)
  obtain ⟨b4, len4, cap4, rfl⟩ := okWide_slice Try.underlying23 (hval 4 23 v4 rfl rfl)
  have k4 := h4
  have lt4 : ∀ x ∈ p4, x.block < W.heap.size := by obtain ⟨m, hm⟩ := k4; exact DataW.trod_lt m _ _ _ hm
  obtain ⟨xs4, w4, y4, x4⟩ : ∃ xs, Crow W (.slice b4 len4 cap4) xs ∧ (∀ a ∈ xs, ChgW a) ∧ InC d4 xs := by
    obtain ⟨fuel, hf⟩ := h4
    exact open_chs (by simpa [Value.cells] using hf)
  clear hA0 hval0
  refine (walk b0 len0 cap0 ks0 b1 len1 cap1 xs1 b2 len2 cap2 xs2 b3 len3 cap3 xs3 b4 len4 cap4 xs4 W w0 y0 w1 y1 (small_A hk x1 (by simp)) w2 y2 (small_A hk x2 (by simp)) w3 y3 (small_C hk x3 (by simp)) w4 y4 (small_C hk x4 (by simp))).mono fun e W' ⟨he, bel⟩ => ?_
  subst he
  exact ⟨_, rfl, _, _, _, [], _, [], hW', trodAll_mk1 (shut_bool Try.underlying4 _), (trodAll_cons_mk (Below.trod laidOut (by kernel_rfl) (of_decide_eq_true (by kernel_rfl)) k0 bel lt0) (trodAll_cons_mk (Below.trod laidOut (by kernel_rfl) (of_decide_eq_true (by kernel_rfl)) k1 bel lt1) (trodAll_cons_mk (Below.trod laidOut (by kernel_rfl) (of_decide_eq_true (by kernel_rfl)) k2 bel lt2) (trodAll_cons_mk (Below.trod laidOut (by kernel_rfl) (of_decide_eq_true (by kernel_rfl)) k3 bel lt3) (trodAll_cons_mk (Below.trod laidOut (by kernel_rfl) (of_decide_eq_true (by kernel_rfl)) k4 bel lt4) trodAll_mk0))))), rfl, bel.frame _, fun h => by cases h⟩

set_option maxRecDepth 100000 in
theorem lifted (os : Os) (started : os.Started) (H : Type) (enc : TypeId × Value → H) (F : Stop.Interp) :
    ReturnsInHanded {} Try.checked os 8 .any ((Rows.OpenSpec.upto Rows.patchStaySpec).pre6 enc Try.prog Try.f8 Rows.patchStayUptoRow.domain false) (((Rows.OpenSpec.upto Rows.patchStaySpec).at F).post enc Try.prog Try.f8 false true false false) := by
  refine returnsInHanded_of_cond (C := Try.checked) (s := Rows.OpenSpec.upto Rows.patchStaySpec) (k := Rows.uptoSmall) rfl own started (by kernel_rfl) Try.func8
    (OpenSpec.witness (enc := enc) (C := Try.checked) (s := Rows.OpenSpec.upto Rows.patchStaySpec) (k := Rows.uptoSmall) rfl false ⟨#[], #[.slice none 0 0, .slice none 0 0, .slice none 0 0, .slice none 0 0, .slice none 0 0], []⟩ 8 (by kernel_rfl) (by kernel_rfl) (by kernel_rfl)
      (x := ([.nil, .nil, .nil, .nil, .nil], [], [])) (by kernel_rfl) rfl (by kernel_rfl)) ?_
  intro W base args ds gs before hval hW _ hk _
  exact contract H enc W base args ds gs before hval hW hk

theorem proved : Rows.PatchStayUptoSaid :=
  OpenClaim.holds_of_cond 8 Try.f8 rfl rfl rfl rfl rfl rfl rfl ⟨rfl, rfl, rfl, rfl, rfl⟩ rfl rfl rfl rfl rfl (by kernel_rfl) Try.func8 (by kernel_rfl)
    (of_decide_eq_true (by kernel_rfl)) (by unfold Func.isWrapper; first | (rw [if_pos (by decide +kernel)]; kernel_rfl) | (rw [if_neg (by decide +kernel)]; exact ⟨rfl, rfl⟩))
    (fun os started H enc _ F => lifted os started H enc F)
end Go.Proofs.Ytkejebjppnhidaa.patchStay
