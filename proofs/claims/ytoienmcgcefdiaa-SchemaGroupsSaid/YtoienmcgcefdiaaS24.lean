
import Derived.Test.YtoienmcgcefdiaaS19
import Derived.Test.YtoienmcgcefdiaaS15
/- S24: SchemaGroups, no key -/
namespace Go.Proofs.Ytoienmcgcefdiaa
open Go.RowKit
set_option linter.unusedVariables false

set_option maxRecDepth 100000 in
set_option maxHeartbeats 2000000 in
theorem groups_zero (v : Value) (w : World) (hv : Krow w v []) :
    Calls Try.prog 4 #[v] w fun e w' => e = .returned (.bool true) ∧ Below w.heap.size w w' := by
  have HKN := Lib.hid (fun w => skn_any w)
  have hm : mayKs [] := ⟨by simp, good_nil⟩
  have HN1 := Lib.hid (fun W hb => new_yes (hv.below (w' := W) hb (Nat.le_refl _)) (by simp) hm)
  have HN2 := Lib.hid (fun W => new_yes (v := .slice none 0 0) (w := W) (back_end (back_init W [])).1 (by simp) hm)
  have HKS := Lib.hid (fun p W hs => keys_empty p W hs)
  obtain ⟨a, cap, hva⟩ := hv.shape
  simp only [List.length_nil] at hva
  subst hva
  clear hv
  go_enter Try.func4, Try.ntmps4
  go_wp2
  refine wp_loop_rounds 1 ?_
  rw [rounds_succ]
  go_wp2_with (first
    | (go_at_call 8; ((with_reducible refine (HN1.out _ (Below.refl _ _)).mono ?_); rintro e w1 ⟨s, rfl, hs1, hb1⟩))
    | (go_at_call 8; ((with_reducible refine (HN2.out _).mono ?_); rintro e w2 ⟨s2, rfl, hs2, hb2⟩))
    | (go_at_call 12; ((with_reducible refine (HKS.out _ _ (hs1.below hb2 (Nat.le_refl _))).mono ?_); rintro e w3 ⟨la, lcap, rfl, hb3⟩))
    | (go_at_call 12; ((with_reducible refine (HKS.out _ _ (hs2.below hb3 (Nat.le_refl _))).mono ?_); rintro e w4 ⟨ma, mcap, rfl, hb4⟩)))
  have HE := Lib.hid (below_add (below_add (below_add hb1 hb2 hb1.size) hb3 (below_add hb1 hb2 hb1.size).size) hb4 (below_add (below_add hb1 hb2 hb1.size) hb3 (below_add hb1 hb2 hb1.size).size).size)
  clear hb1 hb2 hb3 hb4 hs1 hs2
  refine wp_loop_rounds 1 ?_
  rw [rounds_succ]
  go_wp2_with (go_at_call 7; refine (HKN.out _).mono ?_; rintro e w' ⟨rfl, hb5⟩)
  go_ret
  exact ⟨rfl, below_add HE.out hb5 HE.out.size⟩
theorem groups_walk (v : Value) (ks : List Key) (w : World) (hv : Krow w v ks) (hW : ∀ k ∈ ks, KeyW k) :
    Calls Try.prog 4 #[v] w fun e w' => e = .returned (.bool true) ∧ Below w.heap.size w w' := by
  by_cases hl : 64 < ks.length
  · exact groups_long v ks w hv hl
  · by_cases h0 : 0 < ks.length
    · by_cases hm : mayKs ks
      · exact groups_good v ks w hv hW (by omega) h0 hm
      · exact groups_bad v ks w hv hW (by omega) h0 hm
    · obtain rfl : ks = [] := List.eq_nil_of_length_eq_zero (by omega)
      exact groups_zero v w hv
end Go.Proofs.Ytoienmcgcefdiaa
