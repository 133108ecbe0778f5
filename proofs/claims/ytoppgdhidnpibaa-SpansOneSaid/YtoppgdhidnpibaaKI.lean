
import Derived.Test.YtoppgdhidnpibaaKH
/- KI: known -/
namespace Go.Proofs.Ytoppgdhidnpibaa
open Go.RowKit
set_option linter.unusedVariables false
set_option maxRecDepth 100000

section
variable {B rb : Nat} {w w' W : World}
theorem kn_s0 (h : RV B rb [] w) : Calls Try.prog 12 #[.pointer (some ⟨rb, 0, none⟩), .int .i64 0, .int .i64 0, .slice (some ⟨w.heap.size, 0, none⟩) 3 3] (w.alloc (.cells #[.int .i64 3, .int .i64 1, .int .i64 2, .int .i64 1, .int .i64 1, .int .i64 2] 44)) fun e w' => e = .returned (.int .i64 0) ∧ RV B rb [1, 1, 1, 1, 1, 2] w' ∧ Below B (w.alloc (.cells #[.int .i64 3, .int .i64 1, .int .i64 2, .int .i64 1, .int .i64 1, .int .i64 2] 44)) w' :=
  rv_splice h (below_alloc1 w _) (by decide) 0 0 _ (rowB_built [⟨3, 1⟩, ⟨2, 1⟩, ⟨1, 2⟩] rfl (by decide) (Nat.le_refl _))
theorem kn_s1 (h : RV B rb [1, 1, 1, 1, 1, 2] w) : Calls Try.prog 12 #[.pointer (some ⟨rb, 0, none⟩), .int .i64 1, .int .i64 4, .slice (some ⟨w.heap.size, 0, none⟩) 1 1] (w.alloc (.cells #[.int .i64 2, .int .i64 2] 44)) fun e w' => e = .returned (.int .i64 0) ∧ RV B rb [1, 2, 2, 1, 2] w' ∧ Below B (w.alloc (.cells #[.int .i64 2, .int .i64 2] 44)) w' :=
  rv_splice h (below_alloc1 w _) (by decide) 1 4 _ (rowB_built [⟨2, 2⟩] rfl (by decide) (Nat.le_refl _))
theorem kn_count (h : RV B rb [1, 1, 1, 1, 1, 2] w) : Calls Try.prog 16 #[.pointer (some ⟨rb, 0, none⟩)] w fun e w' => e = .returned (.int .i64 2) ∧ Below w.heap.size w w' := rv_count h
theorem kn_len (h : RV B rb [1, 1, 1, 1, 1, 2] w) : Calls Try.prog 15 #[.pointer (some ⟨rb, 0, none⟩)] w fun e w' => e = .returned (.int .i64 6) ∧ Below w.heap.size w w' := rv_len h
theorem kn_at (h : RV B rb [1, 1, 1, 1, 1, 2] w) : Calls Try.prog 9 #[.pointer (some ⟨rb, 0, none⟩), .int .i64 5] w fun e w' => e = .returned (.tuple #[.int .i64 2, .int .i64 0]) ∧ Below w.heap.size w w' := rv_at h (by decide) 5
theorem kn_over (h : RV B rb [1, 2, 2, 1, 2] w) : Calls Try.prog 10 #[.pointer (some ⟨rb, 0, none⟩), .int .i64 0, .int .i64 4] w fun e w' => ∃ v, e = .returned (.tuple #[v, .int .i64 0]) ∧ Row CkC w' v [⟨1, 1⟩, ⟨2, 2⟩, ⟨1, 1⟩] ∧ Below w.heap.size w w' := by
  refine (rv_over h (by decide) 0 4 (by decide) (by decide)).mono ?_
  rintro e w' ⟨v, b, rfl, hb, ho, bb⟩
  exact ⟨v, rfl, (Row.of_owns (C := CkC) ho).1, bb⟩
theorem kn_same {v : Value} (h : Row CkC w v [⟨1, 1⟩, ⟨2, 2⟩, ⟨1, 1⟩]) : Calls Try.prog 21 #[v, .slice (some ⟨w.heap.size, 0, none⟩) 3 3] (w.alloc (.cells #[.int .i64 1, .int .i64 1, .int .i64 2, .int .i64 2, .int .i64 1, .int .i64 1] 44)) fun e w' => e = .returned (.bool true) ∧ Below (w.alloc (.cells #[.int .i64 1, .int .i64 1, .int .i64 2, .int .i64 2, .int .i64 1, .int .i64 1] 44)).heap.size (w.alloc (.cells #[.int .i64 1, .int .i64 1, .int .i64 2, .int .i64 2, .int .i64 1, .int .i64 1] 44)) w' := by
  refine (same11_any _ _ _ _ (h.below (below_alloc1 w _) (Nat.le_refl _)) (Row.built (C := CkC) w 44 [⟨1, 1⟩, ⟨2, 2⟩, ⟨1, 1⟩] (by decide)) (by decide) (by decide)).mono ?_
  rintro e w' ⟨rfl, q, rfl⟩
  exact ⟨rfl, blw_drewN (Below.refl _ _) q⟩
set_option maxHeartbeats 2000000 in
theorem known11_any (w : World) : Calls Try.prog 8 #[] w fun e w' => e = .returned (.bool true) ∧ Below w.heap.size w w' := by
  have HN := Lib.hid (rv_new (B := w.heap.size) w (Nat.le_refl _))
  go_enter Try.func8, Try.ntmps8
  go_wp2_with (first
    | (go_at_call 19; refine HN.out.mono ?_; clear HN; rintro e w1 ⟨rb, rfl, q1, bb⟩; have R1 := Lib.hid q1; have B1 := Lib.hid (bb.alloc bb.size (.cells #[.int .i64 3, .int .i64 1, .int .i64 2, .int .i64 1, .int .i64 1, .int .i64 2] 44)); clear bb q1)
    | (go_at_call 12; (with_reducible refine (kn_s0 R1.out).mono ?_); rintro e w2 ⟨rfl, q1, bb⟩; have R2 := Lib.hid q1; have B2 := Lib.hid (B1.out.trans bb); clear bb q1 R1 B1)
    | (go_at_call 16; (with_reducible refine (kn_count R2.out).mono ?_); rintro e w3 ⟨rfl, bb⟩; have R3 := Lib.hid (R2.out.below bb); have B3 := Lib.hid (below_add B2.out bb B2.out.size); clear bb R2 B2)
    | (go_at_call 15; (with_reducible refine (kn_len R3.out).mono ?_); rintro e w4 ⟨rfl, bb⟩; have R4 := Lib.hid (R3.out.below bb); have B4 := Lib.hid (below_add B3.out bb B3.out.size); clear bb R3 B3)
    | (go_at_call 9; (with_reducible refine (kn_at R4.out).mono ?_); rintro e w5 ⟨rfl, bb⟩; have R5 := Lib.hid (R4.out.below bb); have B5 := Lib.hid ((below_add B4.out bb B4.out.size).alloc (below_add B4.out bb B4.out.size).size (.cells #[.int .i64 2, .int .i64 2] 44)); clear bb R4 B4)
    | (go_at_call 12; (with_reducible refine (kn_s1 R5.out).mono ?_); rintro e w6 ⟨rfl, q1, bb⟩; have R6 := Lib.hid q1; have B6 := Lib.hid (B5.out.trans bb); clear bb q1 R5 B5)
    | (go_at_call 10; (with_reducible refine (kn_over R6.out).mono ?_); rintro e w7 ⟨v, rfl, q1, bb⟩; have R7 := Lib.hid q1; have B7 := Lib.hid ((below_add B6.out bb B6.out.size).alloc (below_add B6.out bb B6.out.size).size (.cells #[.int .i64 1, .int .i64 1, .int .i64 2, .int .i64 2, .int .i64 1, .int .i64 1] 44)); clear bb q1 R6 B6)
    | (go_at_call 21; (with_reducible refine (kn_same R7.out).mono ?_); rintro e w8 ⟨rfl, bb⟩; have B8 := Lib.hid (below_add B7.out bb B7.out.size); clear bb))
  go_ret
  exact ⟨rfl, B8.out⟩
end
end Go.Proofs.Ytoppgdhidnpibaa
