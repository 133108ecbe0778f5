
import Derived.Test.YtkejebjppnhidaaC15
/- C19: PatchPast -/
namespace Go.Proofs.Ytkejebjppnhidaa
open Go.RowKit
set_option linter.unusedVariables false

/-- What is left of one, with its length. -/
theorem lesss_h (a p l : List Chg) (h : less a p = l) (hl : a.length + p.length ≤ 1000000000) (v1 v2 : Value) (W : World) (h1 : Crow W v1 a) (h2 : Crow W v2 p) :
    Calls Try.prog 27 #[v1, v2] W fun e w' => ∃ ua uc, e = .returned (.slice ua l.length uc) ∧ Hid (Crow w' (.slice ua l.length uc) l) ∧ Below W.heap.size W w' :=
  (less_any6 v1 v2 a p W h1 h2 (by omega)).mono fun e w' ⟨u, he, ho, hb⟩ => by
    rw [h] at ho
    have hr := own6_row ho
    obtain ⟨ua, uc, rfl⟩ := hr.shape
    exact ⟨ua, uc, he, Lib.hid hr, hb⟩

set_option maxRecDepth 100000 in
set_option maxHeartbeats 2000000 in
theorem past_walk (ab : Option Addr) (an ac : Nat) (v1 v2 : Value) (a : List Att) (p q : List Chg) (w : World) (ha : Arow w (.slice ab an ac) a) (hp : Crow w v1 p) (hq : Crow w v2 q)
    (za : totA a ≤ 1048576) (zp : totC p ≤ 1048576) (zq : totC q ≤ 1048576) :
    Calls Try.prog 6 #[.slice ab an ac, v1, v2] w fun e w' => e = .returned (.bool true) ∧ Below w.heap.size w w' := by
  have HK := Lib.hid (fun w => known_h w)
  have hB0 : Below w.heap.size w (w.alloc (.cells #[.slice ab an ac] 39)) := (Below.refl _ _).alloc (Nat.le_refl _) _
  obtain ⟨g1, hg1⟩ : ∃ s, grt p [a] = s := ⟨_, rfl⟩
  obtain ⟨g2, hg2⟩ : ∃ s, grt q [] = s := ⟨_, rfl⟩
  obtain ⟨r0, hr0⟩ : ∃ s, decide (Rise a) = s := ⟨_, rfl⟩
  obtain ⟨r1, hr1⟩ : ∃ s, decide (RiseC p) = s := ⟨_, rfl⟩
  obtain ⟨r2, hr2⟩ : ∃ s, decide (RiseC q) = s := ⟨_, rfl⟩
  have HG1 := Lib.hid (great1_h p a g1 hg1 v1 ab an ac w hp ha 39)
  have HG2 := Lib.hid (great0_h q g2 hg2)
  have HR0 := Lib.hid (riseA_h a r0 hr0)
  have HR1 := Lib.hid (riseC_h p r1 hr1)
  have HR2 := Lib.hid (riseC_h q r2 hr2)
  have Ha0 := Lib.hid (ha.below hB0 (Nat.le_refl _))
  have Hp0 := Lib.hid (hp.below hB0 (Nat.le_refl _))
  have Hq0 := Lib.hid (hq.below hB0 (Nat.le_refl _))
  have HB0 := Lib.hid hB0
  have la := totA_len za
  have lp := totC_len zp
  have lq := totC_len zq
  clear hg1 hg2 ha hp hq hB0 za zp zq
  by_cases qg1 : g1 = true
  · subst qg1
    go_enter Try.func6, Try.ntmps6
    go_wp2_with (first
      | (go_at_call 9; with_reducible (refine (HG1.out).mono ?_); rintro e w1 ⟨rfl, hb1⟩; have Ha1 := Lib.hid (Ha0.out.below hb1 (Nat.le_refl _)); have Hp1 := Lib.hid (Hp0.out.below hb1 (Nat.le_refl _)); have Hq1 := Lib.hid (Hq0.out.below hb1 (Nat.le_refl _)); have HB1 := Lib.hid (below_add HB0.out hb1 HB0.out.size))
      | (go_at_call 10; with_reducible (refine (HK.out _).mono ?_); rintro e w99 ⟨rfl, hb99⟩; have HB99 := Lib.hid (below_add HB1.out hb99 HB1.out.size)))
    go_ret
    exact ⟨rfl, HB99.out⟩
  obtain rfl : g1 = false := by revert qg1; cases g1 <;> simp
  clear qg1
  by_cases qg2 : g2 = true
  · subst qg2
    go_enter Try.func6, Try.ntmps6
    go_wp2_with (first
      | (go_at_call 9; with_reducible (refine (HG1.out).mono ?_); rintro e w1 ⟨rfl, hb1⟩; have Ha1 := Lib.hid (Ha0.out.below hb1 (Nat.le_refl _)); have Hp1 := Lib.hid (Hp0.out.below hb1 (Nat.le_refl _)); have Hq1 := Lib.hid (Hq0.out.below hb1 (Nat.le_refl _)); have HB1 := Lib.hid (below_add HB0.out hb1 HB0.out.size))
      | (go_at_call 9; with_reducible (refine (HG2.out _ _ Hq1.out).mono ?_); rintro e w2 ⟨rfl, hb2⟩; have Ha2 := Lib.hid (Ha1.out.below hb2 (Nat.le_refl _)); have Hp2 := Lib.hid (Hp1.out.below hb2 (Nat.le_refl _)); have Hq2 := Lib.hid (Hq1.out.below hb2 (Nat.le_refl _)); have HB2 := Lib.hid (below_add HB1.out hb2 HB1.out.size))
      | (go_at_call 10; with_reducible (refine (HK.out _).mono ?_); rintro e w99 ⟨rfl, hb99⟩; have HB99 := Lib.hid (below_add HB2.out hb99 HB2.out.size)))
    go_ret
    exact ⟨rfl, HB99.out⟩
  obtain rfl : g2 = false := by revert qg2; cases g2 <;> simp
  clear qg2
  by_cases qr0 : r0 = false
  · subst qr0
    go_enter Try.func6, Try.ntmps6
    go_wp2_with (first
      | (go_at_call 9; with_reducible (refine (HG1.out).mono ?_); rintro e w1 ⟨rfl, hb1⟩; have Ha1 := Lib.hid (Ha0.out.below hb1 (Nat.le_refl _)); have Hp1 := Lib.hid (Hp0.out.below hb1 (Nat.le_refl _)); have Hq1 := Lib.hid (Hq0.out.below hb1 (Nat.le_refl _)); have HB1 := Lib.hid (below_add HB0.out hb1 HB0.out.size))
      | (go_at_call 9; with_reducible (refine (HG2.out _ _ Hq1.out).mono ?_); rintro e w2 ⟨rfl, hb2⟩; have Ha2 := Lib.hid (Ha1.out.below hb2 (Nat.le_refl _)); have Hp2 := Lib.hid (Hp1.out.below hb2 (Nat.le_refl _)); have Hq2 := Lib.hid (Hq1.out.below hb2 (Nat.le_refl _)); have HB2 := Lib.hid (below_add HB1.out hb2 HB1.out.size))
      | (go_at_call 21; with_reducible (refine (HR0.out _ _ Ha2.out).mono ?_); rintro e w3 ⟨rfl, hb3⟩; have Ha3 := Lib.hid (Ha2.out.below hb3 (Nat.le_refl _)); have Hp3 := Lib.hid (Hp2.out.below hb3 (Nat.le_refl _)); have Hq3 := Lib.hid (Hq2.out.below hb3 (Nat.le_refl _)); have HB3 := Lib.hid (below_add HB2.out hb3 HB2.out.size))
      | (go_at_call 10; with_reducible (refine (HK.out _).mono ?_); rintro e w99 ⟨rfl, hb99⟩; have HB99 := Lib.hid (below_add HB3.out hb99 HB3.out.size)))
    go_ret
    exact ⟨rfl, HB99.out⟩
  obtain rfl : r0 = true := by revert qr0; cases r0 <;> simp
  clear qr0
  by_cases qr1 : r1 = false
  · subst qr1
    go_enter Try.func6, Try.ntmps6
    go_wp2_with (first
      | (go_at_call 9; with_reducible (refine (HG1.out).mono ?_); rintro e w1 ⟨rfl, hb1⟩; have Ha1 := Lib.hid (Ha0.out.below hb1 (Nat.le_refl _)); have Hp1 := Lib.hid (Hp0.out.below hb1 (Nat.le_refl _)); have Hq1 := Lib.hid (Hq0.out.below hb1 (Nat.le_refl _)); have HB1 := Lib.hid (below_add HB0.out hb1 HB0.out.size))
      | (go_at_call 9; with_reducible (refine (HG2.out _ _ Hq1.out).mono ?_); rintro e w2 ⟨rfl, hb2⟩; have Ha2 := Lib.hid (Ha1.out.below hb2 (Nat.le_refl _)); have Hp2 := Lib.hid (Hp1.out.below hb2 (Nat.le_refl _)); have Hq2 := Lib.hid (Hq1.out.below hb2 (Nat.le_refl _)); have HB2 := Lib.hid (below_add HB1.out hb2 HB1.out.size))
      | (go_at_call 21; with_reducible (refine (HR0.out _ _ Ha2.out).mono ?_); rintro e w3 ⟨rfl, hb3⟩; have Ha3 := Lib.hid (Ha2.out.below hb3 (Nat.le_refl _)); have Hp3 := Lib.hid (Hp2.out.below hb3 (Nat.le_refl _)); have Hq3 := Lib.hid (Hq2.out.below hb3 (Nat.le_refl _)); have HB3 := Lib.hid (below_add HB2.out hb3 HB2.out.size))
      | (go_at_call 19; with_reducible (refine (HR1.out _ _ Hp3.out).mono ?_); rintro e w4 ⟨rfl, hb4⟩; have Ha4 := Lib.hid (Ha3.out.below hb4 (Nat.le_refl _)); have Hp4 := Lib.hid (Hp3.out.below hb4 (Nat.le_refl _)); have Hq4 := Lib.hid (Hq3.out.below hb4 (Nat.le_refl _)); have HB4 := Lib.hid (below_add HB3.out hb4 HB3.out.size))
      | (go_at_call 10; with_reducible (refine (HK.out _).mono ?_); rintro e w99 ⟨rfl, hb99⟩; have HB99 := Lib.hid (below_add HB4.out hb99 HB4.out.size)))
    go_ret
    exact ⟨rfl, HB99.out⟩
  obtain rfl : r1 = true := by revert qr1; cases r1 <;> simp
  clear qr1
  by_cases qr2 : r2 = false
  · subst qr2
    go_enter Try.func6, Try.ntmps6
    go_wp2_with (first
      | (go_at_call 9; with_reducible (refine (HG1.out).mono ?_); rintro e w1 ⟨rfl, hb1⟩; have Ha1 := Lib.hid (Ha0.out.below hb1 (Nat.le_refl _)); have Hp1 := Lib.hid (Hp0.out.below hb1 (Nat.le_refl _)); have Hq1 := Lib.hid (Hq0.out.below hb1 (Nat.le_refl _)); have HB1 := Lib.hid (below_add HB0.out hb1 HB0.out.size))
      | (go_at_call 9; with_reducible (refine (HG2.out _ _ Hq1.out).mono ?_); rintro e w2 ⟨rfl, hb2⟩; have Ha2 := Lib.hid (Ha1.out.below hb2 (Nat.le_refl _)); have Hp2 := Lib.hid (Hp1.out.below hb2 (Nat.le_refl _)); have Hq2 := Lib.hid (Hq1.out.below hb2 (Nat.le_refl _)); have HB2 := Lib.hid (below_add HB1.out hb2 HB1.out.size))
      | (go_at_call 21; with_reducible (refine (HR0.out _ _ Ha2.out).mono ?_); rintro e w3 ⟨rfl, hb3⟩; have Ha3 := Lib.hid (Ha2.out.below hb3 (Nat.le_refl _)); have Hp3 := Lib.hid (Hp2.out.below hb3 (Nat.le_refl _)); have Hq3 := Lib.hid (Hq2.out.below hb3 (Nat.le_refl _)); have HB3 := Lib.hid (below_add HB2.out hb3 HB2.out.size))
      | (go_at_call 19; with_reducible (refine (HR1.out _ _ Hp3.out).mono ?_); rintro e w4 ⟨rfl, hb4⟩; have Ha4 := Lib.hid (Ha3.out.below hb4 (Nat.le_refl _)); have Hp4 := Lib.hid (Hp3.out.below hb4 (Nat.le_refl _)); have Hq4 := Lib.hid (Hq3.out.below hb4 (Nat.le_refl _)); have HB4 := Lib.hid (below_add HB3.out hb4 HB3.out.size))
      | (go_at_call 19; with_reducible (refine (HR2.out _ _ Hq4.out).mono ?_); rintro e w5 ⟨rfl, hb5⟩; have Ha5 := Lib.hid (Ha4.out.below hb5 (Nat.le_refl _)); have Hp5 := Lib.hid (Hp4.out.below hb5 (Nat.le_refl _)); have Hq5 := Lib.hid (Hq4.out.below hb5 (Nat.le_refl _)); have HB5 := Lib.hid (below_add HB4.out hb5 HB4.out.size))
      | (go_at_call 10; with_reducible (refine (HK.out _).mono ?_); rintro e w99 ⟨rfl, hb99⟩; have HB99 := Lib.hid (below_add HB5.out hb99 HB5.out.size)))
    go_ret
    exact ⟨rfl, HB99.out⟩
  obtain rfl : r2 = true := by revert qr2; cases r2 <;> simp
  clear qr2
  have qa := of_decide_eq_true hr0
  have qp := of_decide_eq_true hr1
  have qq := of_decide_eq_true hr2
  clear hr0 hr1 hr2
  have s1 := app_len a p
  have s2 := less_len q p
  have s3 := app_len a q
  have HC1 := Lib.hid (app_h a p _ rfl (by omega))
  have HC2 := Lib.hid (less_h q p _ rfl (by omega))
  have HC3 := Lib.hid (app_h (app a p) (less q p) _ (app_past qa qp qq) (by omega))
  have HC4 := Lib.hid (app_h a q _ rfl (by omega))
  have HC5 := Lib.hid (app_h (app a q) p _ rfl (by omega))
  have HC6 := Lib.hid (lesss_h q p _ rfl (by omega))
  have HC7 := Lib.hid (sameA_h (app (app a q) p) (app (app a q) p) rfl)
  have HNO := Lib.hid (fun c (h : c ∈ less q p) => less_not qq qp h)
  have HLL := Lib.hid (show (less q p).length ≤ 1000000000 by omega)
  clear la lp lq s1 s2 s3 qa qp qq
  generalize less q p = L at *
  generalize app (app a q) p = V at *
  go_enter Try.func6, Try.ntmps6
  go_wp2_with (first
    | (go_at_call 9; with_reducible (refine (HG1.out).mono ?_); rintro e w1 ⟨rfl, hb1⟩; have Ha1 := Lib.hid (Ha0.out.below hb1 (Nat.le_refl _)); have Hp1 := Lib.hid (Hp0.out.below hb1 (Nat.le_refl _)); have Hq1 := Lib.hid (Hq0.out.below hb1 (Nat.le_refl _)); have HB1 := Lib.hid (below_add HB0.out hb1 HB0.out.size))
    | (go_at_call 9; with_reducible (refine (HG2.out _ _ Hq1.out).mono ?_); rintro e w2 ⟨rfl, hb2⟩; have Ha2 := Lib.hid (Ha1.out.below hb2 (Nat.le_refl _)); have Hp2 := Lib.hid (Hp1.out.below hb2 (Nat.le_refl _)); have Hq2 := Lib.hid (Hq1.out.below hb2 (Nat.le_refl _)); have HB2 := Lib.hid (below_add HB1.out hb2 HB1.out.size))
    | (go_at_call 21; with_reducible (refine (HR0.out _ _ Ha2.out).mono ?_); rintro e w3 ⟨rfl, hb3⟩; have Ha3 := Lib.hid (Ha2.out.below hb3 (Nat.le_refl _)); have Hp3 := Lib.hid (Hp2.out.below hb3 (Nat.le_refl _)); have Hq3 := Lib.hid (Hq2.out.below hb3 (Nat.le_refl _)); have HB3 := Lib.hid (below_add HB2.out hb3 HB2.out.size))
    | (go_at_call 19; with_reducible (refine (HR1.out _ _ Hp3.out).mono ?_); rintro e w4 ⟨rfl, hb4⟩; have Ha4 := Lib.hid (Ha3.out.below hb4 (Nat.le_refl _)); have Hp4 := Lib.hid (Hp3.out.below hb4 (Nat.le_refl _)); have Hq4 := Lib.hid (Hq3.out.below hb4 (Nat.le_refl _)); have HB4 := Lib.hid (below_add HB3.out hb4 HB3.out.size))
    | (go_at_call 19; with_reducible (refine (HR2.out _ _ Hq4.out).mono ?_); rintro e w5 ⟨rfl, hb5⟩; have Ha5 := Lib.hid (Ha4.out.below hb5 (Nat.le_refl _)); have Hp5 := Lib.hid (Hp4.out.below hb5 (Nat.le_refl _)); have Hq5 := Lib.hid (Hq4.out.below hb5 (Nat.le_refl _)); have HB5 := Lib.hid (below_add HB4.out hb5 HB4.out.size))
    | (go_at_call 23; with_reducible (refine (HC1.out _ _ _ Ha5.out Hp5.out).mono ?_); rintro e w6 ⟨u6, rfl, Hx6, hb6⟩; have Ha6 := Lib.hid (Ha5.out.below hb6 (Nat.le_refl _)); have Hp6 := Lib.hid (Hp5.out.below hb6 (Nat.le_refl _)); have Hq6 := Lib.hid (Hq5.out.below hb6 (Nat.le_refl _)); have HB6 := Lib.hid (below_add HB5.out hb6 HB5.out.size))
    | (go_at_call 27; with_reducible (refine (HC2.out _ _ _ Hq6.out Hp6.out).mono ?_); rintro e w7 ⟨u7, rfl, Hl7, hb7⟩; have Ha7 := Lib.hid (Ha6.out.below hb7 (Nat.le_refl _)); have Hp7 := Lib.hid (Hp6.out.below hb7 (Nat.le_refl _)); have Hq7 := Lib.hid (Hq6.out.below hb7 (Nat.le_refl _)); have Hx7 := Lib.hid (Hx6.out.below hb7 (Nat.le_refl _)); have HB7 := Lib.hid (below_add HB6.out hb7 HB6.out.size))
    | (go_at_call 23; with_reducible (refine (HC3.out _ _ _ Hx7.out Hl7.out).mono ?_); rintro e w8 ⟨u8, rfl, Hy8, hb8⟩; have Ha8 := Lib.hid (Ha7.out.below hb8 (Nat.le_refl _)); have Hp8 := Lib.hid (Hp7.out.below hb8 (Nat.le_refl _)); have Hq8 := Lib.hid (Hq7.out.below hb8 (Nat.le_refl _)); have Hx8 := Lib.hid (Hx7.out.below hb8 (Nat.le_refl _)); have Hl8 := Lib.hid (Hl7.out.below hb8 (Nat.le_refl _)); have HB8 := Lib.hid (below_add HB7.out hb8 HB7.out.size))
    | (go_at_call 23; with_reducible (refine (HC4.out _ _ _ Ha8.out Hq8.out).mono ?_); rintro e w9 ⟨u9, rfl, Hz9, hb9⟩; have Ha9 := Lib.hid (Ha8.out.below hb9 (Nat.le_refl _)); have Hp9 := Lib.hid (Hp8.out.below hb9 (Nat.le_refl _)); have Hq9 := Lib.hid (Hq8.out.below hb9 (Nat.le_refl _)); have Hy9 := Lib.hid (Hy8.out.below hb9 (Nat.le_refl _)); have HB9 := Lib.hid (below_add HB8.out hb9 HB8.out.size))
    | (go_at_call 23; with_reducible (refine (HC5.out _ _ _ Hz9.out Hp9.out).mono ?_); rintro e w10 ⟨u10, rfl, Hv10, hb10⟩; have Ha10 := Lib.hid (Ha9.out.below hb10 (Nat.le_refl _)); have Hp10 := Lib.hid (Hp9.out.below hb10 (Nat.le_refl _)); have Hq10 := Lib.hid (Hq9.out.below hb10 (Nat.le_refl _)); have Hy10 := Lib.hid (Hy9.out.below hb10 (Nat.le_refl _)); have Hz10 := Lib.hid (Hz9.out.below hb10 (Nat.le_refl _)); have HB10 := Lib.hid (below_add HB9.out hb10 HB9.out.size))
    | (go_at_call 27; with_reducible (refine (HC6.out _ _ _ Hq10.out Hp10.out).mono ?_); rintro e w11 ⟨ua, uc, rfl, Hm11, hb11⟩; have Hp11 := Lib.hid (Hp10.out.below hb11 (Nat.le_refl _)); have Hq11 := Lib.hid (Hq10.out.below hb11 (Nat.le_refl _)); have Hy11 := Lib.hid (Hy10.out.below hb11 (Nat.le_refl _)); have Hv11 := Lib.hid (Hv10.out.below hb11 (Nat.le_refl _)); have HB11 := Lib.hid (below_add HB10.out hb11 HB10.out.size)))
  have hrow := Hm11.out
  have HKN := Lib.hid (fun w' (h : Below w11.heap.size w11 w') => (known_h w'))
  have HFD := Lib.hid (fun key w' (h : Below w11.heap.size w11 w') => rfind6_any v1 p key w' (Hp11.out.below h (Nat.le_refl _)))
  have HSA := Lib.hid (fun w' (h : Below w11.heap.size w11 w') => HC7.out _ _ w' (Hy11.out.below h (Nat.le_refl _)) (Hv11.out.below h (Nat.le_refl _)))
  by_cases h0 : 0 < L.length
  · obtain ⟨b1, o1, rfl, -, -, -, hbl, hat⟩ := Crow.opn hrow h0
    have HAT := Lib.hid hat
    have hl9 := HLL.out
    have hcap : L.length ≤ uc := by rcases hrow with ⟨_, _, e, e2, _⟩ | ⟨_, _, _, e, _, e2, _⟩ <;> injection e <;> omega
    clear hrow hat
    go_loopw [54] (fun s54 wr => ∃ k : Nat, k ≤ L.length ∧ s54 = .int .i64 k ∧ Below w11.heap.size w11 wr) (fun s54 _ => L.length - (intOf s54).toNat)
    case atStart => exact ⟨0, Nat.zero_le _, rfl, Below.refl _ _⟩
    case round =>
      obtain ⟨k, hk, rfl, hb⟩ := hrel
      by_cases hlt : k < L.length
      · obtain ⟨c0, -, -, -, -, -⟩ := (HAT.out k hlt).below hb hbl
        have hno := HNO.out _ (List.getElem_mem hlt)
        have h9 := HFD.out L[k].key wr hb
        rw [getCV_none hno] at h9
        have HF9 := Lib.hid h9
        have HBR := Lib.hid hb
        clear h9 hno hb
        generalize L[k].key = key at *
        go_wp2_with (go_at_call 28; refine HF9.out.mono ?_; rintro e w50 ⟨rfl, hb50⟩)
        have hb51 := below_add HBR.out hb50 HBR.out.size
        have HB52 := Lib.hid (hb51.alloc hb51.size (.cells (cca noChg) 52))
        clear hb50 hb51
        go_roundw
        case rel => exact ⟨k + 1, by omega, by go_num, HB52.out⟩
        case measure => simp [intOf]; omega
      · obtain rfl : k = L.length := by omega
        have HSB := Lib.hid (HSA.out wr hb)
        have HBR := Lib.hid (below_add HB11.out hb HB11.out.size)
        clear hb
        go_wp2_with (first
          | (go_at_call 22; with_reducible (refine HSB.out.mono ?_); rintro e w60 ⟨rfl, hb60⟩; have HB60 := Lib.hid (below_add HBR.out hb60 HBR.out.size))
          | (go_at_call 10; with_reducible (refine (HK.out _).mono ?_); rintro e w61 ⟨rfl, hb61⟩; have HB61 := Lib.hid (below_add HB60.out hb61 HB60.out.size)))
        go_ret
        exact ⟨rfl, HB61.out⟩
  · obtain rfl : L = [] := List.eq_nil_of_length_eq_zero (by omega)
    have HSB := Lib.hid (HSA.out _ (Below.refl _ _))
    clear hrow h0
    refine wp_loop_rounds 1 ?_
    rw [rounds_succ]
    go_wp2_with (first
      | (go_at_call 22; with_reducible (refine HSB.out.mono ?_); rintro e w60 ⟨rfl, hb60⟩; have HB60 := Lib.hid (below_add HB11.out hb60 HB11.out.size))
      | (go_at_call 10; with_reducible (refine (HK.out _).mono ?_); rintro e w61 ⟨rfl, hb61⟩; have HB61 := Lib.hid (below_add HB60.out hb61 HB60.out.size)))
    go_ret
    exact ⟨rfl, HB61.out⟩
end Go.Proofs.Ytkejebjppnhidaa
