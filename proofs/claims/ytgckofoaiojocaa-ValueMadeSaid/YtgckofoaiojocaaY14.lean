
import Derived.Test.YtgckofoaiojocaaY13
namespace Go.Proofs.Ytgckofoaiojocaa
open Go.RowKit
set_option linter.unusedVariables false

set_option maxHeartbeats 1000000 in
theorem made_walk_fl (f n : Int) (b : Bool) (w : World) (g0 : 0 ≤ f) (g1 : f < 18446744073709551616) (hn : nanI f = false) (r1 : n ≤ -9007199254740992) :
    Calls Try.prog 6 #[.int .u64 f, .int .i64 n, .bool b] w fun e w' => e = .returned (.bool true) ∧ Below w.heap.size w w' := by
  have hN : ((f.toNat : Nat) : Int) = f := Int.toNat_of_nonneg g0
  have x1 : (FloatKind.f64.format.order f.toNat f.toNat == some .eq) = true := by rw [nan_eq, hN, hn]; rfl
  have x2 : (FloatKind.f64.format.order f.toNat f.toNat != some .eq) = false := by rw [nan_ne, hN, hn]
  have hC : canonI f = f := (canon_no hn).symm
  have HM3 := fun w => vmay_any 3 0 (canonI f) ⟨#[]⟩ w (canon_range g0 g1).1 (canon_range g0 g1).2
  have HM2 := fun w => vmay_any 2 n 0 ⟨#[]⟩ w (by decide) (by decide)
  have HM1 := fun w => vmay_any 1 (flagN b) 0 ⟨#[]⟩ w (by decide) (by decide)
  have HN3 := fun w => number_any 3 0 (canonI f) ⟨#[]⟩ w (canon_range g0 g1).1 (canon_range g0 g1).2
  have HN2 := fun w => number_any 2 n 0 ⟨#[]⟩ w (by decide) (by decide)
  have HN1 := fun w => number_any 1 (flagN b) 0 ⟨#[]⟩ w (by decide) (by decide)
  have HF := fun w => floatF f w g0 g1
  have HF2 := fun w => floatF (canonI f) w (canon_range g0 g1).1 (canon_range g0 g1).2
  rw [canon_canon] at HF2
  simp only [made_may3, made_may2, made_may1, (made_num3 f).1, (made_num3 f).2, (made_num2 n).1, (made_num2 n).2, (made_num1 b).1, (made_num1 b).2] at HM3 HM2 HM1 HN3 HN2 HN1
  rw [hC] at HM3 HN3 HF HF2
  have y1 : (((f.toNat : Nat) : Int) != f) = false := by rw [hN]; simp
  have y2 : (max f 0 != f) = false := by rw [show max f 0 = f by omega]; simp
  have HM3 := Lib.hid HM3
  have HM2 := Lib.hid HM2
  have HM1 := Lib.hid HM1
  have HN3 := Lib.hid HN3
  have HN2 := Lib.hid HN2
  have HN1 := Lib.hid HN1
  have HF := Lib.hid HF
  have HF2 := Lib.hid HF2
  have HFL := Lib.hid (flag_any b)
  have HK := Lib.hid known_any
  generalize flagN b = m at HM1 HN1 HFL
  have hx := of_bits f
  have hy := fun b => bits_of b
  have hq := fun k n f k' n' f' s s' w => val_neq k n f k' n' f' s s' w
  
  clear hN hC g0 g1 hn
  go_enter Try.func6, Try.ntmps6
  go_wp2_with fail
  refine (HF.out _).mono ?_
  rintro e w1 ⟨rfl, hb1⟩
  go_wp2_with fail
  refine (int_any _ _).mono ?_
  rintro e w2 ⟨rfl, hb2⟩
  go_wp2_with fail
  refine (HFL.out _).mono ?_
  rintro e w3 ⟨rfl, hb3⟩
  have E0 := below_add (below_add hb1 hb2 hb1.size) hb3 (Nat.le_trans hb1.size hb2.size)
  have E1 := below_add E0 (below_three w3 (.cells (vcells 3 0 (f) ⟨#[]⟩) 24) (.cells (vcells 2 n 0 ⟨#[]⟩) 24) (.cells (vcells 1 m 0 ⟨#[]⟩) 24)) E0.size
  obtain ⟨A1, A2, A3⟩ := three_at 3 0 (f) ⟨#[]⟩ 2 n 0 ⟨#[]⟩ 1 m 0 ⟨#[]⟩ w3 24
  clear hb1 hb2 hb3 E0
  go_wp2_with fail
  refine (HM3.out _).mono ?_
  rintro e w4 ⟨rfl, hb4⟩
  have E4 := below_add E1 hb4 E1.size
  have A1 := A1.below hb4
  have A2 := A2.below hb4
  have A3 := A3.below hb4
  clear hb4 E1
  go_wp2_with fail
  refine (HM2.out _).mono ?_
  rintro e w5 ⟨rfl, hb5⟩
  have E5 := below_add E4 hb5 E4.size
  have A1 := A1.below hb5
  have A2 := A2.below hb5
  have A3 := A3.below hb5
  clear hb5 E4
  go_wp2_with fail
  refine (HM1.out _).mono ?_
  rintro e w6 ⟨rfl, hb6⟩
  have E6 := below_add E5 hb6 E5.size
  have A1 := A1.below hb6
  have A2 := A2.below hb6
  have A3 := A3.below hb6
  clear hb6 E5
  go_wp2_with fail
  refine (HN3.out _).mono ?_
  rintro e w7 ⟨rfl, hb7⟩
  have E7 := below_add E6 hb7 E6.size
  have A1 := A1.below hb7
  have A2 := A2.below hb7
  have A3 := A3.below hb7
  clear hb7 E6
  go_wp2_with fail
  refine (HN2.out _).mono ?_
  rintro e w8 ⟨rfl, hb8⟩
  have E8 := below_add E7 hb8 E7.size
  have A1 := A1.below hb8
  have A3 := A3.below hb8
  clear hb8 E7
  go_wp2_with fail
  have A1 := A1.drew
  have A3 := A3.drew
  have E8 := E8.drew
  first
    | (go_region_held (fun w' => At w3.heap.size 3 0 (f) ⟨#[]⟩ w') (first | assumption | trivial)
        (first
          | (go_at_call 16; ((with_reducible refine (HF2.out _).mono ?_); rintro e w9 ⟨rfl, hb9⟩; have A9 := A1.below hb9; have B9 := A3.below hb9; have E9 := below_add E8 hb9 E8.size; clear hb9))))
    | fail
  all_goals
    clear HF HF2 HM3 HM2 HM1 HN3 HN2
    go_wp2_with fail
    refine (HN1.out _).mono ?_
    rintro e w10 ⟨rfl, hb10⟩
    have E10 := below_add E9 hb10 E9.size
    go_wp2_with fail
    refine (HK.out _).mono ?_
    rintro e w11 ⟨rfl, hb11⟩
    have E11 := below_add E10 hb11 E10.size
    go_wp2
    go_ret
    exact ⟨rfl, E11⟩

set_option maxHeartbeats 1000000 in
theorem made_walk_fi (f n : Int) (b : Bool) (w : World) (g0 : 0 ≤ f) (g1 : f < 18446744073709551616) (hn : nanI f = false) (r1 : -9007199254740992 < n) (r2 : n < 9007199254740992) :
    Calls Try.prog 6 #[.int .u64 f, .int .i64 n, .bool b] w fun e w' => e = .returned (.bool true) ∧ Below w.heap.size w w' := by
  have hN : ((f.toNat : Nat) : Int) = f := Int.toNat_of_nonneg g0
  have x1 : (FloatKind.f64.format.order f.toNat f.toNat == some .eq) = true := by rw [nan_eq, hN, hn]; rfl
  have x2 : (FloatKind.f64.format.order f.toNat f.toNat != some .eq) = false := by rw [nan_ne, hN, hn]
  have hC : canonI f = f := (canon_no hn).symm
  have HM3 := fun w => vmay_any 3 0 (canonI f) ⟨#[]⟩ w (canon_range g0 g1).1 (canon_range g0 g1).2
  have HM2 := fun w => vmay_any 2 n 0 ⟨#[]⟩ w (by decide) (by decide)
  have HM1 := fun w => vmay_any 1 (flagN b) 0 ⟨#[]⟩ w (by decide) (by decide)
  have HN3 := fun w => number_any 3 0 (canonI f) ⟨#[]⟩ w (canon_range g0 g1).1 (canon_range g0 g1).2
  have HN2 := fun w => number_any 2 n 0 ⟨#[]⟩ w (by decide) (by decide)
  have HN1 := fun w => number_any 1 (flagN b) 0 ⟨#[]⟩ w (by decide) (by decide)
  have HF := fun w => floatF f w g0 g1
  have HF2 := fun w => floatF (canonI f) w (canon_range g0 g1).1 (canon_range g0 g1).2
  rw [canon_canon] at HF2
  simp only [made_may3, made_may2, made_may1, (made_num3 f).1, (made_num3 f).2, (made_num2 n).1, (made_num2 n).2, (made_num1 b).1, (made_num1 b).2] at HM3 HM2 HM1 HN3 HN2 HN1
  rw [hC] at HM3 HN3 HF HF2
  have y1 : (((f.toNat : Nat) : Int) != f) = false := by rw [hN]; simp
  have y2 : (max f 0 != f) = false := by rw [show max f 0 = f by omega]; simp
  have HM3 := Lib.hid HM3
  have HM2 := Lib.hid HM2
  have HM1 := Lib.hid HM1
  have HN3 := Lib.hid HN3
  have HN2 := Lib.hid HN2
  have HN1 := Lib.hid HN1
  have HF := Lib.hid HF
  have HF2 := Lib.hid HF2
  have HFL := Lib.hid (flag_any b)
  have HK := Lib.hid known_any
  generalize flagN b = m at HM1 HN1 HFL
  have hx := of_bits f
  have hy := fun b => bits_of b
  have hq := fun k n f k' n' f' s s' w => val_neq k n f k' n' f' s s' w
  have hcv := conv_back r1 r2
  clear hN hC g0 g1 hn
  go_enter Try.func6, Try.ntmps6
  go_wp2_with fail
  refine (HF.out _).mono ?_
  rintro e w1 ⟨rfl, hb1⟩
  go_wp2_with fail
  refine (int_any _ _).mono ?_
  rintro e w2 ⟨rfl, hb2⟩
  go_wp2_with fail
  refine (HFL.out _).mono ?_
  rintro e w3 ⟨rfl, hb3⟩
  have E0 := below_add (below_add hb1 hb2 hb1.size) hb3 (Nat.le_trans hb1.size hb2.size)
  have E1 := below_add E0 (below_three w3 (.cells (vcells 3 0 (f) ⟨#[]⟩) 24) (.cells (vcells 2 n 0 ⟨#[]⟩) 24) (.cells (vcells 1 m 0 ⟨#[]⟩) 24)) E0.size
  obtain ⟨A1, A2, A3⟩ := three_at 3 0 (f) ⟨#[]⟩ 2 n 0 ⟨#[]⟩ 1 m 0 ⟨#[]⟩ w3 24
  clear hb1 hb2 hb3 E0
  go_wp2_with fail
  refine (HM3.out _).mono ?_
  rintro e w4 ⟨rfl, hb4⟩
  have E4 := below_add E1 hb4 E1.size
  have A1 := A1.below hb4
  have A2 := A2.below hb4
  have A3 := A3.below hb4
  clear hb4 E1
  go_wp2_with fail
  refine (HM2.out _).mono ?_
  rintro e w5 ⟨rfl, hb5⟩
  have E5 := below_add E4 hb5 E4.size
  have A1 := A1.below hb5
  have A2 := A2.below hb5
  have A3 := A3.below hb5
  clear hb5 E4
  go_wp2_with fail
  refine (HM1.out _).mono ?_
  rintro e w6 ⟨rfl, hb6⟩
  have E6 := below_add E5 hb6 E5.size
  have A1 := A1.below hb6
  have A2 := A2.below hb6
  have A3 := A3.below hb6
  clear hb6 E5
  go_wp2_with fail
  refine (HN3.out _).mono ?_
  rintro e w7 ⟨rfl, hb7⟩
  have E7 := below_add E6 hb7 E6.size
  have A1 := A1.below hb7
  have A2 := A2.below hb7
  have A3 := A3.below hb7
  clear hb7 E6
  go_wp2_with fail
  refine (HN2.out _).mono ?_
  rintro e w8 ⟨rfl, hb8⟩
  have E8 := below_add E7 hb8 E7.size
  have A1 := A1.below hb8
  have A3 := A3.below hb8
  clear hb8 E7
  go_wp2_with fail
  have A1 := A1.drew
  have A3 := A3.drew
  have E8 := E8.drew
  first
    | (go_region_held (fun w' => At w3.heap.size 3 0 (f) ⟨#[]⟩ w') (first | assumption | trivial)
        (first
          | (go_at_call 16; ((with_reducible refine (HF2.out _).mono ?_); rintro e w9 ⟨rfl, hb9⟩; have A9 := A1.below hb9; have B9 := A3.below hb9; have E9 := below_add E8 hb9 E8.size; clear hb9))))
    | fail
  all_goals
    clear HF HF2 HM3 HM2 HM1 HN3 HN2
    go_wp2_with fail
    refine (HN1.out _).mono ?_
    rintro e w10 ⟨rfl, hb10⟩
    have E10 := below_add E9 hb10 E9.size
    go_wp2_with fail
    refine (HK.out _).mono ?_
    rintro e w11 ⟨rfl, hb11⟩
    have E11 := below_add E10 hb11 E10.size
    go_wp2
    go_ret
    exact ⟨rfl, E11⟩

set_option maxHeartbeats 1000000 in
theorem made_walk_fh (f n : Int) (b : Bool) (w : World) (g0 : 0 ≤ f) (g1 : f < 18446744073709551616) (hn : nanI f = false) (r1 : 9007199254740992 ≤ n) :
    Calls Try.prog 6 #[.int .u64 f, .int .i64 n, .bool b] w fun e w' => e = .returned (.bool true) ∧ Below w.heap.size w w' := by
  have hN : ((f.toNat : Nat) : Int) = f := Int.toNat_of_nonneg g0
  have x1 : (FloatKind.f64.format.order f.toNat f.toNat == some .eq) = true := by rw [nan_eq, hN, hn]; rfl
  have x2 : (FloatKind.f64.format.order f.toNat f.toNat != some .eq) = false := by rw [nan_ne, hN, hn]
  have hC : canonI f = f := (canon_no hn).symm
  have HM3 := fun w => vmay_any 3 0 (canonI f) ⟨#[]⟩ w (canon_range g0 g1).1 (canon_range g0 g1).2
  have HM2 := fun w => vmay_any 2 n 0 ⟨#[]⟩ w (by decide) (by decide)
  have HM1 := fun w => vmay_any 1 (flagN b) 0 ⟨#[]⟩ w (by decide) (by decide)
  have HN3 := fun w => number_any 3 0 (canonI f) ⟨#[]⟩ w (canon_range g0 g1).1 (canon_range g0 g1).2
  have HN2 := fun w => number_any 2 n 0 ⟨#[]⟩ w (by decide) (by decide)
  have HN1 := fun w => number_any 1 (flagN b) 0 ⟨#[]⟩ w (by decide) (by decide)
  have HF := fun w => floatF f w g0 g1
  have HF2 := fun w => floatF (canonI f) w (canon_range g0 g1).1 (canon_range g0 g1).2
  rw [canon_canon] at HF2
  simp only [made_may3, made_may2, made_may1, (made_num3 f).1, (made_num3 f).2, (made_num2 n).1, (made_num2 n).2, (made_num1 b).1, (made_num1 b).2] at HM3 HM2 HM1 HN3 HN2 HN1
  rw [hC] at HM3 HN3 HF HF2
  have y1 : (((f.toNat : Nat) : Int) != f) = false := by rw [hN]; simp
  have y2 : (max f 0 != f) = false := by rw [show max f 0 = f by omega]; simp
  have HM3 := Lib.hid HM3
  have HM2 := Lib.hid HM2
  have HM1 := Lib.hid HM1
  have HN3 := Lib.hid HN3
  have HN2 := Lib.hid HN2
  have HN1 := Lib.hid HN1
  have HF := Lib.hid HF
  have HF2 := Lib.hid HF2
  have HFL := Lib.hid (flag_any b)
  have HK := Lib.hid known_any
  generalize flagN b = m at HM1 HN1 HFL
  have hx := of_bits f
  have hy := fun b => bits_of b
  have hq := fun k n f k' n' f' s s' w => val_neq k n f k' n' f' s s' w
  
  clear hN hC g0 g1 hn
  go_enter Try.func6, Try.ntmps6
  go_wp2_with fail
  refine (HF.out _).mono ?_
  rintro e w1 ⟨rfl, hb1⟩
  go_wp2_with fail
  refine (int_any _ _).mono ?_
  rintro e w2 ⟨rfl, hb2⟩
  go_wp2_with fail
  refine (HFL.out _).mono ?_
  rintro e w3 ⟨rfl, hb3⟩
  have E0 := below_add (below_add hb1 hb2 hb1.size) hb3 (Nat.le_trans hb1.size hb2.size)
  have E1 := below_add E0 (below_three w3 (.cells (vcells 3 0 (f) ⟨#[]⟩) 24) (.cells (vcells 2 n 0 ⟨#[]⟩) 24) (.cells (vcells 1 m 0 ⟨#[]⟩) 24)) E0.size
  obtain ⟨A1, A2, A3⟩ := three_at 3 0 (f) ⟨#[]⟩ 2 n 0 ⟨#[]⟩ 1 m 0 ⟨#[]⟩ w3 24
  clear hb1 hb2 hb3 E0
  go_wp2_with fail
  refine (HM3.out _).mono ?_
  rintro e w4 ⟨rfl, hb4⟩
  have E4 := below_add E1 hb4 E1.size
  have A1 := A1.below hb4
  have A2 := A2.below hb4
  have A3 := A3.below hb4
  clear hb4 E1
  go_wp2_with fail
  refine (HM2.out _).mono ?_
  rintro e w5 ⟨rfl, hb5⟩
  have E5 := below_add E4 hb5 E4.size
  have A1 := A1.below hb5
  have A2 := A2.below hb5
  have A3 := A3.below hb5
  clear hb5 E4
  go_wp2_with fail
  refine (HM1.out _).mono ?_
  rintro e w6 ⟨rfl, hb6⟩
  have E6 := below_add E5 hb6 E5.size
  have A1 := A1.below hb6
  have A2 := A2.below hb6
  have A3 := A3.below hb6
  clear hb6 E5
  go_wp2_with fail
  refine (HN3.out _).mono ?_
  rintro e w7 ⟨rfl, hb7⟩
  have E7 := below_add E6 hb7 E6.size
  have A1 := A1.below hb7
  have A2 := A2.below hb7
  have A3 := A3.below hb7
  clear hb7 E6
  go_wp2_with fail
  refine (HN2.out _).mono ?_
  rintro e w8 ⟨rfl, hb8⟩
  have E8 := below_add E7 hb8 E7.size
  have A1 := A1.below hb8
  have A3 := A3.below hb8
  clear hb8 E7
  go_wp2_with fail
  have A1 := A1.drew
  have A3 := A3.drew
  have E8 := E8.drew
  first
    | (go_region_held (fun w' => At w3.heap.size 3 0 (f) ⟨#[]⟩ w') (first | assumption | trivial)
        (first
          | (go_at_call 16; ((with_reducible refine (HF2.out _).mono ?_); rintro e w9 ⟨rfl, hb9⟩; have A9 := A1.below hb9; have B9 := A3.below hb9; have E9 := below_add E8 hb9 E8.size; clear hb9))))
    | fail
  all_goals
    clear HF HF2 HM3 HM2 HM1 HN3 HN2
    go_wp2_with fail
    refine (HN1.out _).mono ?_
    rintro e w10 ⟨rfl, hb10⟩
    have E10 := below_add E9 hb10 E9.size
    go_wp2_with fail
    refine (HK.out _).mono ?_
    rintro e w11 ⟨rfl, hb11⟩
    have E11 := below_add E10 hb11 E10.size
    go_wp2
    go_ret
    exact ⟨rfl, E11⟩
end Go.Proofs.Ytgckofoaiojocaa
