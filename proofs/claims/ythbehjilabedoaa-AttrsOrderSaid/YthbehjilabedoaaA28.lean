
import Derived.Test.YthbehjilabedoaaA27
/- A28: AttrsOrder, whole -/
namespace Go.Proofs.Ythbehjilabedoaa
open Go.RowKit
set_option linter.unusedVariables false

theorem get_nil (v : Value) (key : Int) (w : World) (hv : Arow w v []) :
    Calls Try.prog 18 #[v, .int .i64 key] w fun e w' => e = .returned (.tuple #[vv noAtt, .bool false]) ∧ Below w.heap.size w w' := get_rise v [] key rise_nil w hv (by simp)
theorem without_nil (key : Int) (w : World) :
    Calls Try.prog 20 #[.slice none 0 0, .int .i64 key] w fun e w' => ∃ a c, e = .returned (.slice a 0 c) ∧ Hid (Arow w' (.slice a 0 c) []) ∧ Below w.heap.size w w' :=
  (without_both (.slice none 0 0) [] key rise_nil (by simp) w (Row.nil w)).mono fun e w' ⟨u, he, hr, hb⟩ => by
    have hr2 : Arow w' u [] := hr.out
    obtain ⟨a, c, rfl⟩ := hr2.shape
    exact ⟨a, c, he, Lib.hid hr2, hb⟩

set_option maxRecDepth 100000 in
set_option maxHeartbeats 1000000 in
theorem order_nil (a1 : Option Addr) (cap1 : Nat) (key : Int) (w : World) (h1 : Arow w (.slice a1 0 cap1) []) :
    Calls Try.prog 4 #[.slice a1 0 cap1, .int .i64 key] w fun e w' => e = .returned (.bool true) ∧ Below w.heap.size w w' := by
  have HK := Lib.hid (fun w => known_any5 w)
  have rg := great_any _ [] _ h1
  rw [show decide (great5 []) = false from by decide] at rg
  have HG1 := Lib.hid rg
  have HSS := Lib.hid (fun w => same_yes (.slice none 0 0) (.slice none 0 0) [] w (Row.nil w) (Row.nil w))
  have HWO := Lib.hid (fun w => without_nil key w)
  have HGN := Lib.hid (fun v w hv => get_nil v key w hv)
  clear rg h1
  go_enter Try.func4, Try.ntmps4
  go_wp2_with (go_at_call 8; with_reducible (refine HG1.out.mono ?_); rintro e w8 ⟨rfl, rfl⟩)
  refine wp_loop_rounds 1 ?_
  rw [rounds_succ]
  go_wp2_with fail
  refine wp_loop_rounds 1 ?_
  rw [rounds_succ]
  go_wp2_with (go_at_call 14; with_reducible (refine (HSS.out _).mono ?_); rintro e w11 ⟨rfl, hb11⟩)
  refine wp_loop_rounds 1 ?_
  rw [rounds_succ]
  go_wp2_with (first
    | (go_at_call 20; with_reducible (refine (HWO.out _).mono ?_); rintro e w13 ⟨a13, c13, rfl, HR14, hb13⟩; have hb12 := below_add hb11 hb13 hb11.size)
    | (go_at_call 18; with_reducible (refine (HGN.out (.slice none 0 0) _ (Row.nil _)).mono ?_); rintro e w14 ⟨rfl, hb14⟩; have hb15 := (below_add hb12 hb14 hb12.size).alloc (below_add hb12 hb14 hb12.size).size (.cells (vcells 0 0 0 ⟨#[]⟩) 26); have HRE := Lib.hid ((HR14.out.below hb14 (Nat.le_refl _)).below ((Below.refl _ _).alloc (Nat.le_refl _) (.cells (vcells 0 0 0 ⟨#[]⟩) 26)) (Nat.le_refl _)))
    | (go_at_call 18; with_reducible (refine (HGN.out (.slice a13 0 c13) _ HRE.out).mono ?_); rintro e w16 ⟨rfl, hb16⟩; have hb17 := (below_add hb15 hb16 hb15.size).alloc (below_add hb15 hb16 hb15.size).size (.cells (vcells 0 0 0 ⟨#[]⟩) 26))
    | (go_at_call 9; refine (HK.out _).mono ?_; rintro e w20 ⟨rfl, hb20⟩))
  go_ret
  exact ⟨rfl, below_add hb17 hb20 hb17.size⟩

theorem order_walk (u1 : Value) (xs : List Att) (key : Int) (w : World) (h1 : Arow w u1 xs) :
    Calls Try.prog 4 #[u1, .int .i64 key] w fun e w' => e = .returned (.bool true) ∧ Below w.heap.size w w' := by
  by_cases hn : xs.length ≤ 40 ∧ ¬ great5 xs
  · obtain ⟨a1, cap1, rfl⟩ := h1.shape
    by_cases h0 : 0 < xs.length
    · exact order_main a1 cap1 xs key w h1 hn.1 hn.2 h0
    · obtain rfl : xs = [] := List.eq_nil_of_length_eq_zero (by omega)
      exact order_nil a1 cap1 key w h1
  · exact order_early u1 xs key w h1 hn
end Go.Proofs.Ythbehjilabedoaa
