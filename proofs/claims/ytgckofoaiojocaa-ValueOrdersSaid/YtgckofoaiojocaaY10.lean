
import Derived.Test.YtgckofoaiojocaaY9
import Derived.Test.YtgckofoaiojocaaYK
namespace Go.Proofs.Ytgckofoaiojocaa
open Go.RowKit
set_option linter.unusedVariables false

theorem orders_walk (k n f : Int) (s : ByteArray) (k' n' f' : Int) (s' : ByteArray) (w : World) (h0 : 0 ≤ f) (h1 : f < 18446744073709551616) (g0 : 0 ≤ f') (g1 : f' < 18446744073709551616) :
    Calls Try.prog 4 #[val k n f s, val k' n' f' s'] w fun e w' => e = .returned (.bool true) ∧ Below w.heap.size w w' := by
  have hB := below_two w (.cells (vcells k n f s) 24) (.cells (vcells k' n' f' s') 24)
  obtain ⟨hA1, hA2⟩ := at_two k n f s k' n' f' s' w 24
  by_cases hl : s.size ≤ 1000 ∧ s'.size ≤ 1000
  · obtain ⟨l1, l2⟩ := hl
    have HL := Lib.hid (fun w => less_any k n f s k' n' f' s' w h0 h1 g0 g1)
    have HL2 := Lib.hid (fun w => less_any k' n' f' s' k n f s w g0 g1 h0 h1)
    have HR := Lib.hid (fun w => rless_any k n f s k' n' f' s' w h0 h1 g0 g1 (by omega) (by omega))
    have HR2 := Lib.hid (fun w => rless_any k' n' f' s' k n f s w g0 g1 h0 h1 (by omega) (by omega))
    have HK := Lib.hid known_any
    clear h0 h1 g0 g1
    go_enter Try.func4, Try.ntmps4
    have S0 := And.intro (hA1.below ((Below.refl _ _).drew)) (hA2.below ((Below.refl _ _).drew))
    have E0 := hB.drew
    go_wp2
    go_region_held3 (fun w' => At w.heap.size k n f s w' ∧ At (w.heap.size + 1) k' n' f' s' w') (first | assumption | trivial)
      (first
        | (go_at_call 19; ((with_reducible refine (HL.out _).mono ?_); rintro e w3 ⟨rfl, hb3⟩; have S3 := And.intro (S0.1.below hb3) (S0.2.below hb3); have E3 := below_add E0 hb3 E0.size; clear hb3))
        | (go_at_call 20; ((with_reducible refine (HR.out _).mono ?_); rintro e w4 ⟨rfl, hb4⟩; have S4 := And.intro (S3.1.below hb4) (S3.2.below hb4); have E4 := below_add E3 hb4 E3.size; clear hb4))
        | (go_at_call 19; ((with_reducible refine (HL2.out _).mono ?_); rintro e w5 ⟨rfl, hb5⟩; have S5 := And.intro (S4.1.below hb5) (S4.2.below hb5); have E5 := below_add E4 hb5 E4.size; clear hb5))
        | (go_at_call 20; ((with_reducible refine (HR2.out _).mono ?_); rintro e w6 ⟨rfl, hb6⟩; have S6 := And.intro (S5.1.below hb6) (S5.2.below hb6); have E6 := below_add E5 hb6 E5.size; clear hb6))
        | (go_at_call 7; ((with_reducible refine (HK.out _).mono ?_); rintro e w7 ⟨rfl, hb7⟩; have S7 := And.intro (S6.1.below hb7) (S6.2.below hb7); have E7 := below_add E6 hb7 E6.size; clear hb7)))
    go_wp2
    go_ret
    exact ⟨rfl, E7⟩
  · have HK := Lib.hid known_any
    clear h0 h1 g0 g1
    go_enter Try.func4, Try.ntmps4
    go_wp2_with (go_at_call 7; refine (HK.out _).mono ?_; rintro e w' ⟨rfl, hb⟩)
    all_goals
      go_ret
      exact ⟨rfl, below_add hB hb hB.size⟩
end Go.Proofs.Ytgckofoaiojocaa
