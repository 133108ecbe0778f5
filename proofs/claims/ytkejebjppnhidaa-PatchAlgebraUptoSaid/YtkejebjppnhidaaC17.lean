
import Derived.Test.YtkejebjppnhidaaC15
/- C17: PatchAlgebra -/
namespace Go.Proofs.Ytkejebjppnhidaa
open Go.RowKit
set_option linter.unusedVariables false

set_option maxRecDepth 100000 in
set_option maxHeartbeats 2000000 in
theorem algebra_walk (ab : Option Addr) (an ac : Nat) (v1 v2 v3 : Value) (a : List Att) (p q r : List Chg) (w : World) (ha : Arow w (.slice ab an ac) a) (hp : Crow w v1 p) (hq : Crow w v2 q) (hr : Crow w v3 r)
    (za : totA a ≤ 1048576) (zp : totC p ≤ 1048576) (zq : totC q ≤ 1048576) (zr : totC r ≤ 1048576) :
    Calls Try.prog 4 #[.slice ab an ac, v1, v2, v3] w fun e w' => e = .returned (.bool true) ∧ Below w.heap.size w w' := by
  have HK := Lib.hid (fun w => known_h w)
  have hB0 : Below w.heap.size w (w.alloc (.cells #[.slice ab an ac] 39)) := (Below.refl _ _).alloc (Nat.le_refl _) _
  obtain ⟨g1, hg1⟩ : ∃ b, grt p [a] = b := ⟨_, rfl⟩
  obtain ⟨g2, hg2⟩ : ∃ b, grt q [] = b := ⟨_, rfl⟩
  obtain ⟨g3, hg3⟩ : ∃ b, grt r [] = b := ⟨_, rfl⟩
  obtain ⟨r0, hr0⟩ : ∃ b, decide (Rise a) = b := ⟨_, rfl⟩
  obtain ⟨r1, hr1⟩ : ∃ b, decide (RiseC p) = b := ⟨_, rfl⟩
  obtain ⟨r2, hr2⟩ : ∃ b, decide (RiseC q) = b := ⟨_, rfl⟩
  obtain ⟨r3, hr3⟩ : ∃ b, decide (RiseC r) = b := ⟨_, rfl⟩
  have HG1 := Lib.hid (great1_h p a g1 hg1 v1 ab an ac w hp ha 39)
  have HG2 := Lib.hid (great0_h q g2 hg2)
  have HG3 := Lib.hid (great0_h r g3 hg3)
  have HR0 := Lib.hid (riseA_h a r0 hr0)
  have HR1 := Lib.hid (riseC_h p r1 hr1)
  have HR2 := Lib.hid (riseC_h q r2 hr2)
  have HR3 := Lib.hid (riseC_h r r3 hr3)
  have Ha0 := Lib.hid (ha.below hB0 (Nat.le_refl _))
  have Hp0 := Lib.hid (hp.below hB0 (Nat.le_refl _))
  have Hq0 := Lib.hid (hq.below hB0 (Nat.le_refl _))
  have Hr0 := Lib.hid (hr.below hB0 (Nat.le_refl _))
  have HB0 := Lib.hid hB0
  have la := totA_len za
  have lp := totC_len zp
  have lq := totC_len zq
  have lr := totC_len zr
  clear hg1 hg2 hg3 ha hp hq hr hB0 za zp zq zr
  by_cases qg1 : g1 = true
  · subst qg1
    go_enter Try.func4, Try.ntmps4
    go_wp2_with (first
      | (go_at_call 9; with_reducible (refine (HG1.out).mono ?_); rintro e w1 ⟨rfl, hb1⟩; have Ha1 := Lib.hid (Ha0.out.below hb1 (Nat.le_refl _)); have Hp1 := Lib.hid (Hp0.out.below hb1 (Nat.le_refl _)); have Hq1 := Lib.hid (Hq0.out.below hb1 (Nat.le_refl _)); have Hr1 := Lib.hid (Hr0.out.below hb1 (Nat.le_refl _)); have HB1 := Lib.hid (below_add HB0.out hb1 HB0.out.size))
      | (go_at_call 10; with_reducible (refine (HK.out _).mono ?_); rintro e w99 ⟨rfl, hb99⟩; have HB99 := Lib.hid (below_add HB1.out hb99 HB1.out.size)))
    go_ret
    exact ⟨rfl, HB99.out⟩
  obtain rfl : g1 = false := by revert qg1; cases g1 <;> simp
  clear qg1
  by_cases qg2 : g2 = true
  · subst qg2
    go_enter Try.func4, Try.ntmps4
    go_wp2_with (first
      | (go_at_call 9; with_reducible (refine (HG1.out).mono ?_); rintro e w1 ⟨rfl, hb1⟩; have Ha1 := Lib.hid (Ha0.out.below hb1 (Nat.le_refl _)); have Hp1 := Lib.hid (Hp0.out.below hb1 (Nat.le_refl _)); have Hq1 := Lib.hid (Hq0.out.below hb1 (Nat.le_refl _)); have Hr1 := Lib.hid (Hr0.out.below hb1 (Nat.le_refl _)); have HB1 := Lib.hid (below_add HB0.out hb1 HB0.out.size))
      | (go_at_call 9; with_reducible (refine (HG2.out _ _ Hq1.out).mono ?_); rintro e w2 ⟨rfl, hb2⟩; have Ha2 := Lib.hid (Ha1.out.below hb2 (Nat.le_refl _)); have Hp2 := Lib.hid (Hp1.out.below hb2 (Nat.le_refl _)); have Hq2 := Lib.hid (Hq1.out.below hb2 (Nat.le_refl _)); have Hr2 := Lib.hid (Hr1.out.below hb2 (Nat.le_refl _)); have HB2 := Lib.hid (below_add HB1.out hb2 HB1.out.size))
      | (go_at_call 10; with_reducible (refine (HK.out _).mono ?_); rintro e w99 ⟨rfl, hb99⟩; have HB99 := Lib.hid (below_add HB2.out hb99 HB2.out.size)))
    go_ret
    exact ⟨rfl, HB99.out⟩
  obtain rfl : g2 = false := by revert qg2; cases g2 <;> simp
  clear qg2
  by_cases qg3 : g3 = true
  · subst qg3
    go_enter Try.func4, Try.ntmps4
    go_wp2_with (first
      | (go_at_call 9; with_reducible (refine (HG1.out).mono ?_); rintro e w1 ⟨rfl, hb1⟩; have Ha1 := Lib.hid (Ha0.out.below hb1 (Nat.le_refl _)); have Hp1 := Lib.hid (Hp0.out.below hb1 (Nat.le_refl _)); have Hq1 := Lib.hid (Hq0.out.below hb1 (Nat.le_refl _)); have Hr1 := Lib.hid (Hr0.out.below hb1 (Nat.le_refl _)); have HB1 := Lib.hid (below_add HB0.out hb1 HB0.out.size))
      | (go_at_call 9; with_reducible (refine (HG2.out _ _ Hq1.out).mono ?_); rintro e w2 ⟨rfl, hb2⟩; have Ha2 := Lib.hid (Ha1.out.below hb2 (Nat.le_refl _)); have Hp2 := Lib.hid (Hp1.out.below hb2 (Nat.le_refl _)); have Hq2 := Lib.hid (Hq1.out.below hb2 (Nat.le_refl _)); have Hr2 := Lib.hid (Hr1.out.below hb2 (Nat.le_refl _)); have HB2 := Lib.hid (below_add HB1.out hb2 HB1.out.size))
      | (go_at_call 9; with_reducible (refine (HG3.out _ _ Hr2.out).mono ?_); rintro e w3 ⟨rfl, hb3⟩; have Ha3 := Lib.hid (Ha2.out.below hb3 (Nat.le_refl _)); have Hp3 := Lib.hid (Hp2.out.below hb3 (Nat.le_refl _)); have Hq3 := Lib.hid (Hq2.out.below hb3 (Nat.le_refl _)); have Hr3 := Lib.hid (Hr2.out.below hb3 (Nat.le_refl _)); have HB3 := Lib.hid (below_add HB2.out hb3 HB2.out.size))
      | (go_at_call 10; with_reducible (refine (HK.out _).mono ?_); rintro e w99 ⟨rfl, hb99⟩; have HB99 := Lib.hid (below_add HB3.out hb99 HB3.out.size)))
    go_ret
    exact ⟨rfl, HB99.out⟩
  obtain rfl : g3 = false := by revert qg3; cases g3 <;> simp
  clear qg3
  by_cases qr0 : r0 = false
  · subst qr0
    go_enter Try.func4, Try.ntmps4
    go_wp2_with (first
      | (go_at_call 9; with_reducible (refine (HG1.out).mono ?_); rintro e w1 ⟨rfl, hb1⟩; have Ha1 := Lib.hid (Ha0.out.below hb1 (Nat.le_refl _)); have Hp1 := Lib.hid (Hp0.out.below hb1 (Nat.le_refl _)); have Hq1 := Lib.hid (Hq0.out.below hb1 (Nat.le_refl _)); have Hr1 := Lib.hid (Hr0.out.below hb1 (Nat.le_refl _)); have HB1 := Lib.hid (below_add HB0.out hb1 HB0.out.size))
      | (go_at_call 9; with_reducible (refine (HG2.out _ _ Hq1.out).mono ?_); rintro e w2 ⟨rfl, hb2⟩; have Ha2 := Lib.hid (Ha1.out.below hb2 (Nat.le_refl _)); have Hp2 := Lib.hid (Hp1.out.below hb2 (Nat.le_refl _)); have Hq2 := Lib.hid (Hq1.out.below hb2 (Nat.le_refl _)); have Hr2 := Lib.hid (Hr1.out.below hb2 (Nat.le_refl _)); have HB2 := Lib.hid (below_add HB1.out hb2 HB1.out.size))
      | (go_at_call 9; with_reducible (refine (HG3.out _ _ Hr2.out).mono ?_); rintro e w3 ⟨rfl, hb3⟩; have Ha3 := Lib.hid (Ha2.out.below hb3 (Nat.le_refl _)); have Hp3 := Lib.hid (Hp2.out.below hb3 (Nat.le_refl _)); have Hq3 := Lib.hid (Hq2.out.below hb3 (Nat.le_refl _)); have Hr3 := Lib.hid (Hr2.out.below hb3 (Nat.le_refl _)); have HB3 := Lib.hid (below_add HB2.out hb3 HB2.out.size))
      | (go_at_call 21; with_reducible (refine (HR0.out _ _ Ha3.out).mono ?_); rintro e w4 ⟨rfl, hb4⟩; have Ha4 := Lib.hid (Ha3.out.below hb4 (Nat.le_refl _)); have Hp4 := Lib.hid (Hp3.out.below hb4 (Nat.le_refl _)); have Hq4 := Lib.hid (Hq3.out.below hb4 (Nat.le_refl _)); have Hr4 := Lib.hid (Hr3.out.below hb4 (Nat.le_refl _)); have HB4 := Lib.hid (below_add HB3.out hb4 HB3.out.size))
      | (go_at_call 10; with_reducible (refine (HK.out _).mono ?_); rintro e w99 ⟨rfl, hb99⟩; have HB99 := Lib.hid (below_add HB4.out hb99 HB4.out.size)))
    go_ret
    exact ⟨rfl, HB99.out⟩
  obtain rfl : r0 = true := by revert qr0; cases r0 <;> simp
  clear qr0
  by_cases qr1 : r1 = false
  · subst qr1
    go_enter Try.func4, Try.ntmps4
    go_wp2_with (first
      | (go_at_call 9; with_reducible (refine (HG1.out).mono ?_); rintro e w1 ⟨rfl, hb1⟩; have Ha1 := Lib.hid (Ha0.out.below hb1 (Nat.le_refl _)); have Hp1 := Lib.hid (Hp0.out.below hb1 (Nat.le_refl _)); have Hq1 := Lib.hid (Hq0.out.below hb1 (Nat.le_refl _)); have Hr1 := Lib.hid (Hr0.out.below hb1 (Nat.le_refl _)); have HB1 := Lib.hid (below_add HB0.out hb1 HB0.out.size))
      | (go_at_call 9; with_reducible (refine (HG2.out _ _ Hq1.out).mono ?_); rintro e w2 ⟨rfl, hb2⟩; have Ha2 := Lib.hid (Ha1.out.below hb2 (Nat.le_refl _)); have Hp2 := Lib.hid (Hp1.out.below hb2 (Nat.le_refl _)); have Hq2 := Lib.hid (Hq1.out.below hb2 (Nat.le_refl _)); have Hr2 := Lib.hid (Hr1.out.below hb2 (Nat.le_refl _)); have HB2 := Lib.hid (below_add HB1.out hb2 HB1.out.size))
      | (go_at_call 9; with_reducible (refine (HG3.out _ _ Hr2.out).mono ?_); rintro e w3 ⟨rfl, hb3⟩; have Ha3 := Lib.hid (Ha2.out.below hb3 (Nat.le_refl _)); have Hp3 := Lib.hid (Hp2.out.below hb3 (Nat.le_refl _)); have Hq3 := Lib.hid (Hq2.out.below hb3 (Nat.le_refl _)); have Hr3 := Lib.hid (Hr2.out.below hb3 (Nat.le_refl _)); have HB3 := Lib.hid (below_add HB2.out hb3 HB2.out.size))
      | (go_at_call 21; with_reducible (refine (HR0.out _ _ Ha3.out).mono ?_); rintro e w4 ⟨rfl, hb4⟩; have Ha4 := Lib.hid (Ha3.out.below hb4 (Nat.le_refl _)); have Hp4 := Lib.hid (Hp3.out.below hb4 (Nat.le_refl _)); have Hq4 := Lib.hid (Hq3.out.below hb4 (Nat.le_refl _)); have Hr4 := Lib.hid (Hr3.out.below hb4 (Nat.le_refl _)); have HB4 := Lib.hid (below_add HB3.out hb4 HB3.out.size))
      | (go_at_call 19; with_reducible (refine (HR1.out _ _ Hp4.out).mono ?_); rintro e w5 ⟨rfl, hb5⟩; have Ha5 := Lib.hid (Ha4.out.below hb5 (Nat.le_refl _)); have Hp5 := Lib.hid (Hp4.out.below hb5 (Nat.le_refl _)); have Hq5 := Lib.hid (Hq4.out.below hb5 (Nat.le_refl _)); have Hr5 := Lib.hid (Hr4.out.below hb5 (Nat.le_refl _)); have HB5 := Lib.hid (below_add HB4.out hb5 HB4.out.size))
      | (go_at_call 10; with_reducible (refine (HK.out _).mono ?_); rintro e w99 ⟨rfl, hb99⟩; have HB99 := Lib.hid (below_add HB5.out hb99 HB5.out.size)))
    go_ret
    exact ⟨rfl, HB99.out⟩
  obtain rfl : r1 = true := by revert qr1; cases r1 <;> simp
  clear qr1
  by_cases qr2 : r2 = false
  · subst qr2
    go_enter Try.func4, Try.ntmps4
    go_wp2_with (first
      | (go_at_call 9; with_reducible (refine (HG1.out).mono ?_); rintro e w1 ⟨rfl, hb1⟩; have Ha1 := Lib.hid (Ha0.out.below hb1 (Nat.le_refl _)); have Hp1 := Lib.hid (Hp0.out.below hb1 (Nat.le_refl _)); have Hq1 := Lib.hid (Hq0.out.below hb1 (Nat.le_refl _)); have Hr1 := Lib.hid (Hr0.out.below hb1 (Nat.le_refl _)); have HB1 := Lib.hid (below_add HB0.out hb1 HB0.out.size))
      | (go_at_call 9; with_reducible (refine (HG2.out _ _ Hq1.out).mono ?_); rintro e w2 ⟨rfl, hb2⟩; have Ha2 := Lib.hid (Ha1.out.below hb2 (Nat.le_refl _)); have Hp2 := Lib.hid (Hp1.out.below hb2 (Nat.le_refl _)); have Hq2 := Lib.hid (Hq1.out.below hb2 (Nat.le_refl _)); have Hr2 := Lib.hid (Hr1.out.below hb2 (Nat.le_refl _)); have HB2 := Lib.hid (below_add HB1.out hb2 HB1.out.size))
      | (go_at_call 9; with_reducible (refine (HG3.out _ _ Hr2.out).mono ?_); rintro e w3 ⟨rfl, hb3⟩; have Ha3 := Lib.hid (Ha2.out.below hb3 (Nat.le_refl _)); have Hp3 := Lib.hid (Hp2.out.below hb3 (Nat.le_refl _)); have Hq3 := Lib.hid (Hq2.out.below hb3 (Nat.le_refl _)); have Hr3 := Lib.hid (Hr2.out.below hb3 (Nat.le_refl _)); have HB3 := Lib.hid (below_add HB2.out hb3 HB2.out.size))
      | (go_at_call 21; with_reducible (refine (HR0.out _ _ Ha3.out).mono ?_); rintro e w4 ⟨rfl, hb4⟩; have Ha4 := Lib.hid (Ha3.out.below hb4 (Nat.le_refl _)); have Hp4 := Lib.hid (Hp3.out.below hb4 (Nat.le_refl _)); have Hq4 := Lib.hid (Hq3.out.below hb4 (Nat.le_refl _)); have Hr4 := Lib.hid (Hr3.out.below hb4 (Nat.le_refl _)); have HB4 := Lib.hid (below_add HB3.out hb4 HB3.out.size))
      | (go_at_call 19; with_reducible (refine (HR1.out _ _ Hp4.out).mono ?_); rintro e w5 ⟨rfl, hb5⟩; have Ha5 := Lib.hid (Ha4.out.below hb5 (Nat.le_refl _)); have Hp5 := Lib.hid (Hp4.out.below hb5 (Nat.le_refl _)); have Hq5 := Lib.hid (Hq4.out.below hb5 (Nat.le_refl _)); have Hr5 := Lib.hid (Hr4.out.below hb5 (Nat.le_refl _)); have HB5 := Lib.hid (below_add HB4.out hb5 HB4.out.size))
      | (go_at_call 19; with_reducible (refine (HR2.out _ _ Hq5.out).mono ?_); rintro e w6 ⟨rfl, hb6⟩; have Ha6 := Lib.hid (Ha5.out.below hb6 (Nat.le_refl _)); have Hp6 := Lib.hid (Hp5.out.below hb6 (Nat.le_refl _)); have Hq6 := Lib.hid (Hq5.out.below hb6 (Nat.le_refl _)); have Hr6 := Lib.hid (Hr5.out.below hb6 (Nat.le_refl _)); have HB6 := Lib.hid (below_add HB5.out hb6 HB5.out.size))
      | (go_at_call 10; with_reducible (refine (HK.out _).mono ?_); rintro e w99 ⟨rfl, hb99⟩; have HB99 := Lib.hid (below_add HB6.out hb99 HB6.out.size)))
    go_ret
    exact ⟨rfl, HB99.out⟩
  obtain rfl : r2 = true := by revert qr2; cases r2 <;> simp
  clear qr2
  by_cases qr3 : r3 = false
  · subst qr3
    go_enter Try.func4, Try.ntmps4
    go_wp2_with (first
      | (go_at_call 9; with_reducible (refine (HG1.out).mono ?_); rintro e w1 ⟨rfl, hb1⟩; have Ha1 := Lib.hid (Ha0.out.below hb1 (Nat.le_refl _)); have Hp1 := Lib.hid (Hp0.out.below hb1 (Nat.le_refl _)); have Hq1 := Lib.hid (Hq0.out.below hb1 (Nat.le_refl _)); have Hr1 := Lib.hid (Hr0.out.below hb1 (Nat.le_refl _)); have HB1 := Lib.hid (below_add HB0.out hb1 HB0.out.size))
      | (go_at_call 9; with_reducible (refine (HG2.out _ _ Hq1.out).mono ?_); rintro e w2 ⟨rfl, hb2⟩; have Ha2 := Lib.hid (Ha1.out.below hb2 (Nat.le_refl _)); have Hp2 := Lib.hid (Hp1.out.below hb2 (Nat.le_refl _)); have Hq2 := Lib.hid (Hq1.out.below hb2 (Nat.le_refl _)); have Hr2 := Lib.hid (Hr1.out.below hb2 (Nat.le_refl _)); have HB2 := Lib.hid (below_add HB1.out hb2 HB1.out.size))
      | (go_at_call 9; with_reducible (refine (HG3.out _ _ Hr2.out).mono ?_); rintro e w3 ⟨rfl, hb3⟩; have Ha3 := Lib.hid (Ha2.out.below hb3 (Nat.le_refl _)); have Hp3 := Lib.hid (Hp2.out.below hb3 (Nat.le_refl _)); have Hq3 := Lib.hid (Hq2.out.below hb3 (Nat.le_refl _)); have Hr3 := Lib.hid (Hr2.out.below hb3 (Nat.le_refl _)); have HB3 := Lib.hid (below_add HB2.out hb3 HB2.out.size))
      | (go_at_call 21; with_reducible (refine (HR0.out _ _ Ha3.out).mono ?_); rintro e w4 ⟨rfl, hb4⟩; have Ha4 := Lib.hid (Ha3.out.below hb4 (Nat.le_refl _)); have Hp4 := Lib.hid (Hp3.out.below hb4 (Nat.le_refl _)); have Hq4 := Lib.hid (Hq3.out.below hb4 (Nat.le_refl _)); have Hr4 := Lib.hid (Hr3.out.below hb4 (Nat.le_refl _)); have HB4 := Lib.hid (below_add HB3.out hb4 HB3.out.size))
      | (go_at_call 19; with_reducible (refine (HR1.out _ _ Hp4.out).mono ?_); rintro e w5 ⟨rfl, hb5⟩; have Ha5 := Lib.hid (Ha4.out.below hb5 (Nat.le_refl _)); have Hp5 := Lib.hid (Hp4.out.below hb5 (Nat.le_refl _)); have Hq5 := Lib.hid (Hq4.out.below hb5 (Nat.le_refl _)); have Hr5 := Lib.hid (Hr4.out.below hb5 (Nat.le_refl _)); have HB5 := Lib.hid (below_add HB4.out hb5 HB4.out.size))
      | (go_at_call 19; with_reducible (refine (HR2.out _ _ Hq5.out).mono ?_); rintro e w6 ⟨rfl, hb6⟩; have Ha6 := Lib.hid (Ha5.out.below hb6 (Nat.le_refl _)); have Hp6 := Lib.hid (Hp5.out.below hb6 (Nat.le_refl _)); have Hq6 := Lib.hid (Hq5.out.below hb6 (Nat.le_refl _)); have Hr6 := Lib.hid (Hr5.out.below hb6 (Nat.le_refl _)); have HB6 := Lib.hid (below_add HB5.out hb6 HB5.out.size))
      | (go_at_call 19; with_reducible (refine (HR3.out _ _ Hr6.out).mono ?_); rintro e w7 ⟨rfl, hb7⟩; have Ha7 := Lib.hid (Ha6.out.below hb7 (Nat.le_refl _)); have Hp7 := Lib.hid (Hp6.out.below hb7 (Nat.le_refl _)); have Hq7 := Lib.hid (Hq6.out.below hb7 (Nat.le_refl _)); have Hr7 := Lib.hid (Hr6.out.below hb7 (Nat.le_refl _)); have HB7 := Lib.hid (below_add HB6.out hb7 HB6.out.size))
      | (go_at_call 10; with_reducible (refine (HK.out _).mono ?_); rintro e w99 ⟨rfl, hb99⟩; have HB99 := Lib.hid (below_add HB7.out hb99 HB7.out.size)))
    go_ret
    exact ⟨rfl, HB99.out⟩
  obtain rfl : r3 = true := by revert qr3; cases r3 <;> simp
  clear qr3
  have qa := of_decide_eq_true hr0
  have qp := of_decide_eq_true hr1
  have qq := of_decide_eq_true hr2
  have qr := of_decide_eq_true hr3
  clear hr0 hr1 hr2 hr3
  have s1 := app_len a p
  have s2 := app_len (app a p) q
  have s3 := comp_len p q
  have s4 := comp_len q r
  have HC1 := Lib.hid (app_h a p _ rfl (by omega))
  have HC2 := Lib.hid (app_h (app a p) q _ rfl (by omega))
  have HC3 := Lib.hid (comp_h p q _ rfl (by omega))
  have HC4 := Lib.hid (app_h a (comp p q) _ rfl (by omega))
  have HC5 := Lib.hid (sameA_h (app (app a p) q) (app a (comp p q)) (app_app qa qp qq))
  have HC6 := Lib.hid (app_h a [] _ (app_nil qa) (by simp; omega))
  have HC7 := Lib.hid (sameA_h a a rfl)
  have HC8 := Lib.hid (comp_h (comp p q) r _ rfl (by omega))
  have HC9 := Lib.hid (comp_h q r _ rfl (by omega))
  have HC10 := Lib.hid (comp_h p (comp q r) _ rfl (by omega))
  have HC11 := Lib.hid (sameC_h (comp (comp p q) r) (comp p (comp q r)) true (decide_eq_true (comp_comp qp qq qr)))
  have HC12 := Lib.hid (comp_h p [] _ (comp_nil qp) (by simp; omega))
  have HC13 := Lib.hid (sameC_h p p true (decide_eq_true rfl))
  have HC14 := Lib.hid (comp_h [] p _ (nil_comp qp) (by simp; omega))
  clear la lp lq lr s1 s2 s3 s4 qa qp qq qr
  go_enter Try.func4, Try.ntmps4
  go_wp2_with (first
    | (go_at_call 9; with_reducible (refine (HG1.out).mono ?_); rintro e w1 ⟨rfl, hb1⟩; have Ha1 := Lib.hid (Ha0.out.below hb1 (Nat.le_refl _)); have Hp1 := Lib.hid (Hp0.out.below hb1 (Nat.le_refl _)); have Hq1 := Lib.hid (Hq0.out.below hb1 (Nat.le_refl _)); have Hr1 := Lib.hid (Hr0.out.below hb1 (Nat.le_refl _)); have HB1 := Lib.hid (below_add HB0.out hb1 HB0.out.size))
    | (go_at_call 9; with_reducible (refine (HG2.out _ _ Hq1.out).mono ?_); rintro e w2 ⟨rfl, hb2⟩; have Ha2 := Lib.hid (Ha1.out.below hb2 (Nat.le_refl _)); have Hp2 := Lib.hid (Hp1.out.below hb2 (Nat.le_refl _)); have Hq2 := Lib.hid (Hq1.out.below hb2 (Nat.le_refl _)); have Hr2 := Lib.hid (Hr1.out.below hb2 (Nat.le_refl _)); have HB2 := Lib.hid (below_add HB1.out hb2 HB1.out.size))
    | (go_at_call 9; with_reducible (refine (HG3.out _ _ Hr2.out).mono ?_); rintro e w3 ⟨rfl, hb3⟩; have Ha3 := Lib.hid (Ha2.out.below hb3 (Nat.le_refl _)); have Hp3 := Lib.hid (Hp2.out.below hb3 (Nat.le_refl _)); have Hq3 := Lib.hid (Hq2.out.below hb3 (Nat.le_refl _)); have Hr3 := Lib.hid (Hr2.out.below hb3 (Nat.le_refl _)); have HB3 := Lib.hid (below_add HB2.out hb3 HB2.out.size))
    | (go_at_call 21; with_reducible (refine (HR0.out _ _ Ha3.out).mono ?_); rintro e w4 ⟨rfl, hb4⟩; have Ha4 := Lib.hid (Ha3.out.below hb4 (Nat.le_refl _)); have Hp4 := Lib.hid (Hp3.out.below hb4 (Nat.le_refl _)); have Hq4 := Lib.hid (Hq3.out.below hb4 (Nat.le_refl _)); have Hr4 := Lib.hid (Hr3.out.below hb4 (Nat.le_refl _)); have HB4 := Lib.hid (below_add HB3.out hb4 HB3.out.size))
    | (go_at_call 19; with_reducible (refine (HR1.out _ _ Hp4.out).mono ?_); rintro e w5 ⟨rfl, hb5⟩; have Ha5 := Lib.hid (Ha4.out.below hb5 (Nat.le_refl _)); have Hp5 := Lib.hid (Hp4.out.below hb5 (Nat.le_refl _)); have Hq5 := Lib.hid (Hq4.out.below hb5 (Nat.le_refl _)); have Hr5 := Lib.hid (Hr4.out.below hb5 (Nat.le_refl _)); have HB5 := Lib.hid (below_add HB4.out hb5 HB4.out.size))
    | (go_at_call 19; with_reducible (refine (HR2.out _ _ Hq5.out).mono ?_); rintro e w6 ⟨rfl, hb6⟩; have Ha6 := Lib.hid (Ha5.out.below hb6 (Nat.le_refl _)); have Hp6 := Lib.hid (Hp5.out.below hb6 (Nat.le_refl _)); have Hq6 := Lib.hid (Hq5.out.below hb6 (Nat.le_refl _)); have Hr6 := Lib.hid (Hr5.out.below hb6 (Nat.le_refl _)); have HB6 := Lib.hid (below_add HB5.out hb6 HB5.out.size))
    | (go_at_call 19; with_reducible (refine (HR3.out _ _ Hr6.out).mono ?_); rintro e w7 ⟨rfl, hb7⟩; have Ha7 := Lib.hid (Ha6.out.below hb7 (Nat.le_refl _)); have Hp7 := Lib.hid (Hp6.out.below hb7 (Nat.le_refl _)); have Hq7 := Lib.hid (Hq6.out.below hb7 (Nat.le_refl _)); have Hr7 := Lib.hid (Hr6.out.below hb7 (Nat.le_refl _)); have HB7 := Lib.hid (below_add HB6.out hb7 HB6.out.size))
    | (go_at_call 23; with_reducible (refine (HC1.out _ _ _ Ha7.out Hp7.out).mono ?_); rintro e w8 ⟨u8, rfl, Hx8, hb8⟩; have Ha8 := Lib.hid (Ha7.out.below hb8 (Nat.le_refl _)); have Hp8 := Lib.hid (Hp7.out.below hb8 (Nat.le_refl _)); have Hq8 := Lib.hid (Hq7.out.below hb8 (Nat.le_refl _)); have Hr8 := Lib.hid (Hr7.out.below hb8 (Nat.le_refl _)); have HB8 := Lib.hid (below_add HB7.out hb8 HB7.out.size))
    | (go_at_call 23; with_reducible (refine (HC2.out _ _ _ Hx8.out Hq8.out).mono ?_); rintro e w9 ⟨u9, rfl, Hy9, hb9⟩; have Ha9 := Lib.hid (Ha8.out.below hb9 (Nat.le_refl _)); have Hp9 := Lib.hid (Hp8.out.below hb9 (Nat.le_refl _)); have Hq9 := Lib.hid (Hq8.out.below hb9 (Nat.le_refl _)); have Hr9 := Lib.hid (Hr8.out.below hb9 (Nat.le_refl _)); have Hx9 := Lib.hid (Hx8.out.below hb9 (Nat.le_refl _)); have HB9 := Lib.hid (below_add HB8.out hb9 HB8.out.size))
    | (go_at_call 24; with_reducible (refine (HC3.out _ _ _ Hp9.out Hq9.out).mono ?_); rintro e w10 ⟨u10, rfl, Hc10, hb10⟩; have Ha10 := Lib.hid (Ha9.out.below hb10 (Nat.le_refl _)); have Hp10 := Lib.hid (Hp9.out.below hb10 (Nat.le_refl _)); have Hq10 := Lib.hid (Hq9.out.below hb10 (Nat.le_refl _)); have Hr10 := Lib.hid (Hr9.out.below hb10 (Nat.le_refl _)); have Hx10 := Lib.hid (Hx9.out.below hb10 (Nat.le_refl _)); have Hy10 := Lib.hid (Hy9.out.below hb10 (Nat.le_refl _)); have HB10 := Lib.hid (below_add HB9.out hb10 HB9.out.size))
    | (go_at_call 23; with_reducible (refine (HC4.out _ _ _ Ha10.out Hc10.out).mono ?_); rintro e w11 ⟨u11, rfl, Hz11, hb11⟩; have Ha11 := Lib.hid (Ha10.out.below hb11 (Nat.le_refl _)); have Hp11 := Lib.hid (Hp10.out.below hb11 (Nat.le_refl _)); have Hq11 := Lib.hid (Hq10.out.below hb11 (Nat.le_refl _)); have Hr11 := Lib.hid (Hr10.out.below hb11 (Nat.le_refl _)); have Hx11 := Lib.hid (Hx10.out.below hb11 (Nat.le_refl _)); have Hy11 := Lib.hid (Hy10.out.below hb11 (Nat.le_refl _)); have Hc11 := Lib.hid (Hc10.out.below hb11 (Nat.le_refl _)); have HB11 := Lib.hid (below_add HB10.out hb11 HB10.out.size))
    | (go_at_call 22; with_reducible (refine (HC5.out _ _ _ Hy11.out Hz11.out).mono ?_); rintro e w12 ⟨rfl, hb12⟩; have Ha12 := Lib.hid (Ha11.out.below hb12 (Nat.le_refl _)); have Hp12 := Lib.hid (Hp11.out.below hb12 (Nat.le_refl _)); have Hq12 := Lib.hid (Hq11.out.below hb12 (Nat.le_refl _)); have Hr12 := Lib.hid (Hr11.out.below hb12 (Nat.le_refl _)); have Hy12 := Lib.hid (Hy11.out.below hb12 (Nat.le_refl _)); have Hc12 := Lib.hid (Hc11.out.below hb12 (Nat.le_refl _)); have Hz12 := Lib.hid (Hz11.out.below hb12 (Nat.le_refl _)); have HB12 := Lib.hid (below_add HB11.out hb12 HB11.out.size))
    | (go_at_call 23; with_reducible (refine (HC6.out _ _ _ Ha12.out (crow_nil _)).mono ?_); rintro e w13 ⟨u13, rfl, Hd13, hb13⟩; have Ha13 := Lib.hid (Ha12.out.below hb13 (Nat.le_refl _)); have Hp13 := Lib.hid (Hp12.out.below hb13 (Nat.le_refl _)); have Hq13 := Lib.hid (Hq12.out.below hb13 (Nat.le_refl _)); have Hr13 := Lib.hid (Hr12.out.below hb13 (Nat.le_refl _)); have Hy13 := Lib.hid (Hy12.out.below hb13 (Nat.le_refl _)); have Hz13 := Lib.hid (Hz12.out.below hb13 (Nat.le_refl _)); have HB13 := Lib.hid (below_add HB12.out hb13 HB12.out.size))
    | (go_at_call 22; with_reducible (refine (HC7.out _ _ _ Hd13.out Ha13.out).mono ?_); rintro e w14 ⟨rfl, hb14⟩; have Ha14 := Lib.hid (Ha13.out.below hb14 (Nat.le_refl _)); have Hp14 := Lib.hid (Hp13.out.below hb14 (Nat.le_refl _)); have Hq14 := Lib.hid (Hq13.out.below hb14 (Nat.le_refl _)); have Hr14 := Lib.hid (Hr13.out.below hb14 (Nat.le_refl _)); have Hd14 := Lib.hid (Hd13.out.below hb14 (Nat.le_refl _)); have HB14 := Lib.hid (below_add HB13.out hb14 HB13.out.size))
    | (go_at_call 24; with_reducible (refine (HC3.out _ _ _ Hp14.out Hq14.out).mono ?_); rintro e w15 ⟨u15, rfl, He15, hb15⟩; have Ha15 := Lib.hid (Ha14.out.below hb15 (Nat.le_refl _)); have Hp15 := Lib.hid (Hp14.out.below hb15 (Nat.le_refl _)); have Hq15 := Lib.hid (Hq14.out.below hb15 (Nat.le_refl _)); have Hr15 := Lib.hid (Hr14.out.below hb15 (Nat.le_refl _)); have Hd15 := Lib.hid (Hd14.out.below hb15 (Nat.le_refl _)); have HB15 := Lib.hid (below_add HB14.out hb15 HB14.out.size))
    | (go_at_call 24; with_reducible (refine (HC8.out _ _ _ He15.out Hr15.out).mono ?_); rintro e w16 ⟨u16, rfl, Hf16, hb16⟩; have Hp16 := Lib.hid (Hp15.out.below hb16 (Nat.le_refl _)); have Hq16 := Lib.hid (Hq15.out.below hb16 (Nat.le_refl _)); have Hr16 := Lib.hid (Hr15.out.below hb16 (Nat.le_refl _)); have He16 := Lib.hid (He15.out.below hb16 (Nat.le_refl _)); have HB16 := Lib.hid (below_add HB15.out hb16 HB15.out.size))
    | (go_at_call 24; with_reducible (refine (HC9.out _ _ _ Hq16.out Hr16.out).mono ?_); rintro e w17 ⟨u17, rfl, Hg17, hb17⟩; have Hp17 := Lib.hid (Hp16.out.below hb17 (Nat.le_refl _)); have Hq17 := Lib.hid (Hq16.out.below hb17 (Nat.le_refl _)); have Hr17 := Lib.hid (Hr16.out.below hb17 (Nat.le_refl _)); have He17 := Lib.hid (He16.out.below hb17 (Nat.le_refl _)); have Hf17 := Lib.hid (Hf16.out.below hb17 (Nat.le_refl _)); have HB17 := Lib.hid (below_add HB16.out hb17 HB16.out.size))
    | (go_at_call 24; with_reducible (refine (HC10.out _ _ _ Hp17.out Hg17.out).mono ?_); rintro e w18 ⟨u18, rfl, Hh18, hb18⟩; have Hp18 := Lib.hid (Hp17.out.below hb18 (Nat.le_refl _)); have Hq18 := Lib.hid (Hq17.out.below hb18 (Nat.le_refl _)); have Hr18 := Lib.hid (Hr17.out.below hb18 (Nat.le_refl _)); have Hf18 := Lib.hid (Hf17.out.below hb18 (Nat.le_refl _)); have Hg18 := Lib.hid (Hg17.out.below hb18 (Nat.le_refl _)); have HB18 := Lib.hid (below_add HB17.out hb18 HB17.out.size))
    | (go_at_call 15; with_reducible (refine (HC11.out _ _ _ Hf18.out Hh18.out).mono ?_); rintro e w19 ⟨rfl, hb19⟩; have Hp19 := Lib.hid (Hp18.out.below hb19 (Nat.le_refl _)); have Hq19 := Lib.hid (Hq18.out.below hb19 (Nat.le_refl _)); have Hr19 := Lib.hid (Hr18.out.below hb19 (Nat.le_refl _)); have Hf19 := Lib.hid (Hf18.out.below hb19 (Nat.le_refl _)); have Hg19 := Lib.hid (Hg18.out.below hb19 (Nat.le_refl _)); have Hh19 := Lib.hid (Hh18.out.below hb19 (Nat.le_refl _)); have HB19 := Lib.hid (below_add HB18.out hb19 HB18.out.size))
    | (go_at_call 24; with_reducible (refine (HC12.out _ _ _ Hp19.out (crow_nil _)).mono ?_); rintro e w20 ⟨u20, rfl, Hi20, hb20⟩; have Hp20 := Lib.hid (Hp19.out.below hb20 (Nat.le_refl _)); have Hq20 := Lib.hid (Hq19.out.below hb20 (Nat.le_refl _)); have Hr20 := Lib.hid (Hr19.out.below hb20 (Nat.le_refl _)); have Hf20 := Lib.hid (Hf19.out.below hb20 (Nat.le_refl _)); have Hh20 := Lib.hid (Hh19.out.below hb20 (Nat.le_refl _)); have HB20 := Lib.hid (below_add HB19.out hb20 HB19.out.size))
    | (go_at_call 15; with_reducible (refine (HC13.out _ _ _ Hi20.out Hp20.out).mono ?_); rintro e w21 ⟨rfl, hb21⟩; have Hp21 := Lib.hid (Hp20.out.below hb21 (Nat.le_refl _)); have Hi21 := Lib.hid (Hi20.out.below hb21 (Nat.le_refl _)); have HB21 := Lib.hid (below_add HB20.out hb21 HB20.out.size))
    | (go_at_call 24; with_reducible (refine (HC14.out _ _ _ (crow_nil _) Hp21.out).mono ?_); rintro e w22 ⟨u22, rfl, Hj22, hb22⟩; have Hp22 := Lib.hid (Hp21.out.below hb22 (Nat.le_refl _)); have Hi22 := Lib.hid (Hi21.out.below hb22 (Nat.le_refl _)); have HB22 := Lib.hid (below_add HB21.out hb22 HB21.out.size))
    | (go_at_call 15; with_reducible (refine (HC13.out _ _ _ Hj22.out Hp22.out).mono ?_); rintro e w23 ⟨rfl, hb23⟩; have Hp23 := Lib.hid (Hp22.out.below hb23 (Nat.le_refl _)); have Hj23 := Lib.hid (Hj22.out.below hb23 (Nat.le_refl _)); have HB23 := Lib.hid (below_add HB22.out hb23 HB22.out.size))
    | (go_at_call 10; with_reducible (refine (HK.out _).mono ?_); rintro e w24 ⟨rfl, hb24⟩; have Hp24 := Lib.hid (Hp23.out.below hb24 (Nat.le_refl _)); have Hj24 := Lib.hid (Hj23.out.below hb24 (Nat.le_refl _)); have HB24 := Lib.hid (below_add HB23.out hb24 HB23.out.size)))
  go_ret
  exact ⟨rfl, HB24.out⟩
end Go.Proofs.Ytkejebjppnhidaa
