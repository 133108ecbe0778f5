/-
  P12.1 and P12.2, BlocksPlaces: proper blocks that tell the same at each place are the same; joined ones tell what they told: proved of the program at this commit, for every two rows of blocks, without a condition beside the row's own.
-/
import Derived.Test.YtclbjfeneegicaaRows
import Derived.Test.YtclbjfeneegicaaBL
import Derived.WalkKit
import Derived.ProofKit
import Derived.OpenShut
import Derived.ShutString
import Derived.ChangeOld
import Derived.Below
import Derived.SizedLaws
import Derived.Carry
import Derived.JoinedCond
namespace Go.Proofs.Ytclbjfeneegicaa.blocksPlaces
open Go.ChangeShapes Go.WideShapes Go.ChangeAt Go.RowKit
open Go.ChangeMaps (open_string shut_string)
set_option linter.unusedVariables false

theorem own : ownKnob Try.prog.godebug = none := by kernel_rfl
theorem laidOut : laidOutB Try.prog = true := by kernel_rfl
theorem walk (b0 : Option Addr) (len0 cap0 : Nat) (zs0 : List Bz) (b1 : Option Addr) (len1 cap1 : Nat) (zs1 : List Bz) (w : World) (w0 : Zrow w (.slice b0 len0 cap0) zs0) (y0 : ∀ z ∈ zs0, (Lit.int .i64 z.n).wf = true) (z0 : ∀ z ∈ zs0, z.s.length * 48 ≤ 140737488355328) (w1 : Zrow w (.slice b1 len1 cap1) zs1) (y1 : ∀ z ∈ zs1, (Lit.int .i64 z.n).wf = true) (z1 : ∀ z ∈ zs1, z.s.length * 48 ≤ 140737488355328) :
    Calls Try.prog 6 #[.slice b0 len0 cap0, .slice b1 len1 cap1] w fun e w' => e = .returned (.bool true) ∧ Below w.heap.size w w' := by
  exact places_walk _ _ zs0 zs1 w w0 w1

set_option maxRecDepth 100000 in
theorem lifted (os : Os) (started : os.Started) (H : Type) (enc : TypeId × Value → H) :
    ReturnsInHanded {} Try.checked os 6 .any (Rows.blocksPlacesSpec.pre6 enc Try.prog Try.f6 Rows.blocksPlacesRow.domain false) (Rows.blocksPlacesSpec.post enc Try.prog Try.f6 false true false false) := by
  refine returnsInHanded_of_change_sized (C := Try.checked) own started (by kernel_rfl) Try.func6
    (ChangeSpec.witness6 (enc := enc) (C := Try.checked) false ⟨#[], #[.slice none 0 0, .slice none 0 0], []⟩ 8 (by kernel_rfl) (by kernel_rfl) (by kernel_rfl) (by kernel_rfl)) ?_
  intro W base args ds gs before hval0 hW hcnd hsz _
  have hval : ∀ (j : Nat) t v, Try.f6.params[j]? = some t → args[j]? = some v → Value.okWide Try.prog W .any base t v := hval0
  have hW' := hW
  obtain ⟨p, q, hA0, hV, rfl, hfz, hnd⟩ := hW
  have hA : DataW.TrodAll enc Try.prog W 0 (fun _ => true) true Try.f6.params.toList args.toList ds p := hA0
  rw [Try.params6] at hA hval
  obtain ⟨v0, vs0, d0, ds0, p0, q0, hargs, rfl, rfl, h0, r0⟩ := trodAll_cons hA
  obtain ⟨v1, vs1, d1, ds1, p1, q1, rfl, rfl, rfl, h1, r1⟩ := trodAll_cons r0
  obtain ⟨rfl, rfl, rfl⟩ := trodAll_nil r1
  obtain rfl : args = #[v0, v1] := by cases args; simp_all
  obtain ⟨rfl, rfl⟩ := trodVars_none hV
  obtain ⟨b0, len0, cap0, rfl⟩ := okWide_slice Try.underlying22 (hval 0 22 v0 rfl rfl)
  have k0 := h0
  have lt0 : ∀ x ∈ p0, x.block < W.heap.size := by obtain ⟨m, hm⟩ := k0; exact DataW.trod_lt m _ _ _ hm
  obtain ⟨xs0, w0, y0, x0⟩ : ∃ xs : List (Bz × DataW H), Zrow W (.slice b0 len0 cap0) (xs.map Prod.fst) ∧ (∀ a ∈ xs, BkIn W a) ∧ InB d0 xs := by
    obtain ⟨fuel, hf⟩ := h0
    exact open_bks (by simpa [Value.cells] using hf)
  obtain ⟨b1, len1, cap1, rfl⟩ := okWide_slice Try.underlying22 (hval 1 22 v1 rfl rfl)
  have k1 := h1
  have lt1 : ∀ x ∈ p1, x.block < W.heap.size := by obtain ⟨m, hm⟩ := k1; exact DataW.trod_lt m _ _ _ hm
  obtain ⟨xs1, w1, y1, x1⟩ : ∃ xs : List (Bz × DataW H), Zrow W (.slice b1 len1 cap1) (xs.map Prod.fst) ∧ (∀ a ∈ xs, BkIn W a) ∧ InB d1 xs := by
    obtain ⟨fuel, hf⟩ := h1
    exact open_bks (by simpa [Value.cells] using hf)
  clear hA0 hval0
  refine (walk b0 len0 cap0 (xs0.map Prod.fst) b1 len1 cap1 (xs1.map Prod.fst) W w0 (fun z hz => by obtain ⟨a, ha, rfl⟩ := List.mem_map.1 hz; exact (y0 a ha).1) (sized_B hsz (j := 0) x0 y0 (by rw [Try.params6]; rfl) rfl) w1 (fun z hz => by obtain ⟨a, ha, rfl⟩ := List.mem_map.1 hz; exact (y1 a ha).1) (sized_B hsz (j := 1) x1 y1 (by rw [Try.params6]; rfl) rfl)).mono fun e W' ⟨he, bel⟩ => ?_
  subst he
  exact ⟨_, rfl, _, _, _, [], _, [], hW', trodAll_mk1 (shut_bool Try.underlying4 _), (trodAll_cons_mk (Below.trod laidOut (by kernel_rfl) (of_decide_eq_true (by kernel_rfl)) k0 bel lt0) (trodAll_cons_mk (Below.trod laidOut (by kernel_rfl) (of_decide_eq_true (by kernel_rfl)) k1 bel lt1) trodAll_mk0)), rfl, bel.frame _, fun h => by cases h⟩

theorem over : Rows.blocksPlacesRow.holds Try.pinned (OpenSpec.ofChange Rows.blocksPlacesSpec) :=
  OpenClaim.holds_of_wide 6 Try.f6 rfl rfl rfl rfl rfl rfl rfl ⟨rfl, rfl, rfl, rfl, rfl⟩ rfl rfl rfl rfl rfl (by kernel_rfl) Try.func6 (by kernel_rfl)
    (of_decide_eq_true (by kernel_rfl)) (by unfold Func.isWrapper; first | (rw [if_pos (by decide +kernel)]; kernel_rfl) | (rw [if_neg (by decide +kernel)]; exact ⟨rfl, rfl⟩))
    (fun os started H enc _ => lifted os started H enc)

theorem proved : Rows.BlocksPlacesSaid :=
  over
end Go.Proofs.Ytclbjfeneegicaa.blocksPlaces
