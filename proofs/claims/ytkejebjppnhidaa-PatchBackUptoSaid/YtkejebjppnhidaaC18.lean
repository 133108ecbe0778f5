
import Derived.Test.YtkejebjppnhidaaC15
/- C18: PatchBack -/
namespace Go.Proofs.Ytkejebjppnhidaa
open Go.RowKit
set_option linter.unusedVariables false

/-- A difference of none, with its length. -/
theorem diffnil_h (a b : List Att) (h : diff6 a b = []) (hl : a.length + b.length ≤ 1000000000) (v1 v2 : Value) (W : World) (h1 : Arow W v1 a) (h2 : Arow W v2 b) :
    Calls Try.prog 26 #[v1, v2] W fun e w' => ∃ ua uc, e = .returned (.slice ua 0 uc) ∧ Below W.heap.size W w' :=
  (diff_any v1 v2 a b W h1 h2 hl).mono fun e w' ⟨u, he, ho, hb⟩ => by
    rw [h] at ho
    obtain ⟨ua, uc, rfl⟩ := (own6_row ho).shape
    exact ⟨ua, uc, he, hb⟩

set_option maxRecDepth 100000 in
set_option maxHeartbeats 2000000 in
theorem back_walk (ab : Option Addr) (an ac : Nat) (bb : Option Addr) (bn bc : Nat) (v1 : Value) (a b : List Att) (p : List Chg) (w : World) (ha : Arow w (.slice ab an ac) a) (hb : Arow w (.slice bb bn bc) b) (hp : Crow w v1 p)
    (za : totA a ≤ 1048576) (zb : totA b ≤ 1048576) (zp : totC p ≤ 1048576) :
    Calls Try.prog 5 #[.slice ab an ac, .slice bb bn bc, v1] w fun e w' => e = .returned (.bool true) ∧ Below w.heap.size w w' := by
  have HK := Lib.hid (fun w => known_h w)
  have hB0 : Below w.heap.size w (w.alloc (.cells #[.slice ab an ac, .slice bb bn bc] 39)) := (Below.refl _ _).alloc (Nat.le_refl _) _
  obtain ⟨g1, hg1⟩ : ∃ s, grt p [a, b] = s := ⟨_, rfl⟩
  obtain ⟨r0, hr0⟩ : ∃ s, decide (Rise a) = s := ⟨_, rfl⟩
  obtain ⟨r1, hr1⟩ : ∃ s, decide (Rise b) = s := ⟨_, rfl⟩
  obtain ⟨r2, hr2⟩ : ∃ s, decide (RiseC p) = s := ⟨_, rfl⟩
  have HG1 := Lib.hid (great2_h p a b g1 hg1 v1 ab an ac bb bn bc w hp ha hb 39)
  have HR0 := Lib.hid (riseA_h a r0 hr0)
  have HR1 := Lib.hid (riseA_h b r1 hr1)
  have HR2 := Lib.hid (riseC_h p r2 hr2)
  have Ha0 := Lib.hid (ha.below hB0 (Nat.le_refl _))
  have Hb0 := Lib.hid (hb.below hB0 (Nat.le_refl _))
  have Hp0 := Lib.hid (hp.below hB0 (Nat.le_refl _))
  have HB0 := Lib.hid hB0
  have la := totA_len za
  have lb := totA_len zb
  have lp := totC_len zp
  clear hg1 ha hb hp hB0 za zb zp
  by_cases qg1 : g1 = true
  · subst qg1
    go_enter Try.func5, Try.ntmps5
    go_wp2_with (first
      | (go_at_call 9; with_reducible (refine (HG1.out).mono ?_); rintro e w1 ⟨rfl, hb1⟩; have Ha1 := Lib.hid (Ha0.out.below hb1 (Nat.le_refl _)); have Hb1 := Lib.hid (Hb0.out.below hb1 (Nat.le_refl _)); have Hp1 := Lib.hid (Hp0.out.below hb1 (Nat.le_refl _)); have HB1 := Lib.hid (below_add HB0.out hb1 HB0.out.size))
      | (go_at_call 10; with_reducible (refine (HK.out _).mono ?_); rintro e w99 ⟨rfl, hb99⟩; have HB99 := Lib.hid (below_add HB1.out hb99 HB1.out.size)))
    go_ret
    exact ⟨rfl, HB99.out⟩
  obtain rfl : g1 = false := by revert qg1; cases g1 <;> simp
  clear qg1
  by_cases qr0 : r0 = false
  · subst qr0
    go_enter Try.func5, Try.ntmps5
    go_wp2_with (first
      | (go_at_call 9; with_reducible (refine (HG1.out).mono ?_); rintro e w1 ⟨rfl, hb1⟩; have Ha1 := Lib.hid (Ha0.out.below hb1 (Nat.le_refl _)); have Hb1 := Lib.hid (Hb0.out.below hb1 (Nat.le_refl _)); have Hp1 := Lib.hid (Hp0.out.below hb1 (Nat.le_refl _)); have HB1 := Lib.hid (below_add HB0.out hb1 HB0.out.size))
      | (go_at_call 21; with_reducible (refine (HR0.out _ _ Ha1.out).mono ?_); rintro e w2 ⟨rfl, hb2⟩; have Ha2 := Lib.hid (Ha1.out.below hb2 (Nat.le_refl _)); have Hb2 := Lib.hid (Hb1.out.below hb2 (Nat.le_refl _)); have Hp2 := Lib.hid (Hp1.out.below hb2 (Nat.le_refl _)); have HB2 := Lib.hid (below_add HB1.out hb2 HB1.out.size))
      | (go_at_call 10; with_reducible (refine (HK.out _).mono ?_); rintro e w99 ⟨rfl, hb99⟩; have HB99 := Lib.hid (below_add HB2.out hb99 HB2.out.size)))
    go_ret
    exact ⟨rfl, HB99.out⟩
  obtain rfl : r0 = true := by revert qr0; cases r0 <;> simp
  clear qr0
  by_cases qr1 : r1 = false
  · subst qr1
    go_enter Try.func5, Try.ntmps5
    go_wp2_with (first
      | (go_at_call 9; with_reducible (refine (HG1.out).mono ?_); rintro e w1 ⟨rfl, hb1⟩; have Ha1 := Lib.hid (Ha0.out.below hb1 (Nat.le_refl _)); have Hb1 := Lib.hid (Hb0.out.below hb1 (Nat.le_refl _)); have Hp1 := Lib.hid (Hp0.out.below hb1 (Nat.le_refl _)); have HB1 := Lib.hid (below_add HB0.out hb1 HB0.out.size))
      | (go_at_call 21; with_reducible (refine (HR0.out _ _ Ha1.out).mono ?_); rintro e w2 ⟨rfl, hb2⟩; have Ha2 := Lib.hid (Ha1.out.below hb2 (Nat.le_refl _)); have Hb2 := Lib.hid (Hb1.out.below hb2 (Nat.le_refl _)); have Hp2 := Lib.hid (Hp1.out.below hb2 (Nat.le_refl _)); have HB2 := Lib.hid (below_add HB1.out hb2 HB1.out.size))
      | (go_at_call 21; with_reducible (refine (HR1.out _ _ Hb2.out).mono ?_); rintro e w3 ⟨rfl, hb3⟩; have Ha3 := Lib.hid (Ha2.out.below hb3 (Nat.le_refl _)); have Hb3 := Lib.hid (Hb2.out.below hb3 (Nat.le_refl _)); have Hp3 := Lib.hid (Hp2.out.below hb3 (Nat.le_refl _)); have HB3 := Lib.hid (below_add HB2.out hb3 HB2.out.size))
      | (go_at_call 10; with_reducible (refine (HK.out _).mono ?_); rintro e w99 ⟨rfl, hb99⟩; have HB99 := Lib.hid (below_add HB3.out hb99 HB3.out.size)))
    go_ret
    exact ⟨rfl, HB99.out⟩
  obtain rfl : r1 = true := by revert qr1; cases r1 <;> simp
  clear qr1
  by_cases qr2 : r2 = false
  · subst qr2
    go_enter Try.func5, Try.ntmps5
    go_wp2_with (first
      | (go_at_call 9; with_reducible (refine (HG1.out).mono ?_); rintro e w1 ⟨rfl, hb1⟩; have Ha1 := Lib.hid (Ha0.out.below hb1 (Nat.le_refl _)); have Hb1 := Lib.hid (Hb0.out.below hb1 (Nat.le_refl _)); have Hp1 := Lib.hid (Hp0.out.below hb1 (Nat.le_refl _)); have HB1 := Lib.hid (below_add HB0.out hb1 HB0.out.size))
      | (go_at_call 21; with_reducible (refine (HR0.out _ _ Ha1.out).mono ?_); rintro e w2 ⟨rfl, hb2⟩; have Ha2 := Lib.hid (Ha1.out.below hb2 (Nat.le_refl _)); have Hb2 := Lib.hid (Hb1.out.below hb2 (Nat.le_refl _)); have Hp2 := Lib.hid (Hp1.out.below hb2 (Nat.le_refl _)); have HB2 := Lib.hid (below_add HB1.out hb2 HB1.out.size))
      | (go_at_call 21; with_reducible (refine (HR1.out _ _ Hb2.out).mono ?_); rintro e w3 ⟨rfl, hb3⟩; have Ha3 := Lib.hid (Ha2.out.below hb3 (Nat.le_refl _)); have Hb3 := Lib.hid (Hb2.out.below hb3 (Nat.le_refl _)); have Hp3 := Lib.hid (Hp2.out.below hb3 (Nat.le_refl _)); have HB3 := Lib.hid (below_add HB2.out hb3 HB2.out.size))
      | (go_at_call 19; with_reducible (refine (HR2.out _ _ Hp3.out).mono ?_); rintro e w4 ⟨rfl, hb4⟩; have Ha4 := Lib.hid (Ha3.out.below hb4 (Nat.le_refl _)); have Hb4 := Lib.hid (Hb3.out.below hb4 (Nat.le_refl _)); have Hp4 := Lib.hid (Hp3.out.below hb4 (Nat.le_refl _)); have HB4 := Lib.hid (below_add HB3.out hb4 HB3.out.size))
      | (go_at_call 10; with_reducible (refine (HK.out _).mono ?_); rintro e w99 ⟨rfl, hb99⟩; have HB99 := Lib.hid (below_add HB4.out hb99 HB4.out.size)))
    go_ret
    exact ⟨rfl, HB99.out⟩
  obtain rfl : r2 = true := by revert qr2; cases r2 <;> simp
  clear qr2
  have qa := of_decide_eq_true hr0
  have qb := of_decide_eq_true hr1
  have qp := of_decide_eq_true hr2
  clear hr0 hr1 hr2
  have s1 := app_len a p
  have s2 := diff6_len a b
  have s3 := diff6_len (app a p) a
  have HC1 := Lib.hid (app_h a p _ rfl (by omega))
  have HC2 := Lib.hid (inv_h a p _ rfl (by omega))
  have HC3 := Lib.hid (app_h (app a p) (inv a p) _ (app_inv qa qp) (by unfold inv; omega))
  have HC4 := Lib.hid (sameA_h a a rfl)
  have HC5 := Lib.hid (diff_h a b _ rfl (by omega))
  have HC6 := Lib.hid (app_h a (diff6 a b) _ (app_diff qa qb) (by omega))
  have HC7 := Lib.hid (sameA_h b b rfl)
  have HC8 := Lib.hid (diffnil_h a a (diff_self qa) (by omega))
  have HC9 := Lib.hid (inv_h a (diff6 a b) _ (inv_diff qa qb) (by omega))
  have HC10 := Lib.hid (diff_h b a _ rfl (by omega))
  have HC11 := Lib.hid (sameC_h (diff6 b a) (diff6 b a) true (decide_eq_true rfl))
  clear la lb lp s1 s2 s3 qa qb qp
  go_enter Try.func5, Try.ntmps5
  go_wp2_with (first
    | (go_at_call 9; with_reducible (refine (HG1.out).mono ?_); rintro e w1 ⟨rfl, hb1⟩; have Ha1 := Lib.hid (Ha0.out.below hb1 (Nat.le_refl _)); have Hb1 := Lib.hid (Hb0.out.below hb1 (Nat.le_refl _)); have Hp1 := Lib.hid (Hp0.out.below hb1 (Nat.le_refl _)); have HB1 := Lib.hid (below_add HB0.out hb1 HB0.out.size))
    | (go_at_call 21; with_reducible (refine (HR0.out _ _ Ha1.out).mono ?_); rintro e w2 ⟨rfl, hb2⟩; have Ha2 := Lib.hid (Ha1.out.below hb2 (Nat.le_refl _)); have Hb2 := Lib.hid (Hb1.out.below hb2 (Nat.le_refl _)); have Hp2 := Lib.hid (Hp1.out.below hb2 (Nat.le_refl _)); have HB2 := Lib.hid (below_add HB1.out hb2 HB1.out.size))
    | (go_at_call 21; with_reducible (refine (HR1.out _ _ Hb2.out).mono ?_); rintro e w3 ⟨rfl, hb3⟩; have Ha3 := Lib.hid (Ha2.out.below hb3 (Nat.le_refl _)); have Hb3 := Lib.hid (Hb2.out.below hb3 (Nat.le_refl _)); have Hp3 := Lib.hid (Hp2.out.below hb3 (Nat.le_refl _)); have HB3 := Lib.hid (below_add HB2.out hb3 HB2.out.size))
    | (go_at_call 19; with_reducible (refine (HR2.out _ _ Hp3.out).mono ?_); rintro e w4 ⟨rfl, hb4⟩; have Ha4 := Lib.hid (Ha3.out.below hb4 (Nat.le_refl _)); have Hb4 := Lib.hid (Hb3.out.below hb4 (Nat.le_refl _)); have Hp4 := Lib.hid (Hp3.out.below hb4 (Nat.le_refl _)); have HB4 := Lib.hid (below_add HB3.out hb4 HB3.out.size))
    | (go_at_call 23; with_reducible (refine (HC1.out _ _ _ Ha4.out Hp4.out).mono ?_); rintro e w5 ⟨u5, rfl, Hx5, hb5⟩; have Ha5 := Lib.hid (Ha4.out.below hb5 (Nat.le_refl _)); have Hb5 := Lib.hid (Hb4.out.below hb5 (Nat.le_refl _)); have Hp5 := Lib.hid (Hp4.out.below hb5 (Nat.le_refl _)); have HB5 := Lib.hid (below_add HB4.out hb5 HB4.out.size))
    | (go_at_call 25; with_reducible (refine (HC2.out _ _ _ Ha5.out Hp5.out).mono ?_); rintro e w6 ⟨u6, rfl, Hi6, hb6⟩; have Ha6 := Lib.hid (Ha5.out.below hb6 (Nat.le_refl _)); have Hb6 := Lib.hid (Hb5.out.below hb6 (Nat.le_refl _)); have Hp6 := Lib.hid (Hp5.out.below hb6 (Nat.le_refl _)); have Hx6 := Lib.hid (Hx5.out.below hb6 (Nat.le_refl _)); have HB6 := Lib.hid (below_add HB5.out hb6 HB5.out.size))
    | (go_at_call 23; with_reducible (refine (HC3.out _ _ _ Hx6.out Hi6.out).mono ?_); rintro e w7 ⟨u7, rfl, Hy7, hb7⟩; have Ha7 := Lib.hid (Ha6.out.below hb7 (Nat.le_refl _)); have Hb7 := Lib.hid (Hb6.out.below hb7 (Nat.le_refl _)); have Hp7 := Lib.hid (Hp6.out.below hb7 (Nat.le_refl _)); have Hx7 := Lib.hid (Hx6.out.below hb7 (Nat.le_refl _)); have Hi7 := Lib.hid (Hi6.out.below hb7 (Nat.le_refl _)); have HB7 := Lib.hid (below_add HB6.out hb7 HB6.out.size))
    | (go_at_call 22; with_reducible (refine (HC4.out _ _ _ Hy7.out Ha7.out).mono ?_); rintro e w8 ⟨rfl, hb8⟩; have Ha8 := Lib.hid (Ha7.out.below hb8 (Nat.le_refl _)); have Hb8 := Lib.hid (Hb7.out.below hb8 (Nat.le_refl _)); have Hy8 := Lib.hid (Hy7.out.below hb8 (Nat.le_refl _)); have HB8 := Lib.hid (below_add HB7.out hb8 HB7.out.size))
    | (go_at_call 26; with_reducible (refine (HC5.out _ _ _ Ha8.out Hb8.out).mono ?_); rintro e w9 ⟨u9, rfl, Hd9, hb9⟩; have Ha9 := Lib.hid (Ha8.out.below hb9 (Nat.le_refl _)); have Hb9 := Lib.hid (Hb8.out.below hb9 (Nat.le_refl _)); have HB9 := Lib.hid (below_add HB8.out hb9 HB8.out.size))
    | (go_at_call 23; with_reducible (refine (HC6.out _ _ _ Ha9.out Hd9.out).mono ?_); rintro e w10 ⟨u10, rfl, Hz10, hb10⟩; have Ha10 := Lib.hid (Ha9.out.below hb10 (Nat.le_refl _)); have Hb10 := Lib.hid (Hb9.out.below hb10 (Nat.le_refl _)); have Hd10 := Lib.hid (Hd9.out.below hb10 (Nat.le_refl _)); have HB10 := Lib.hid (below_add HB9.out hb10 HB9.out.size))
    | (go_at_call 22; with_reducible (refine (HC7.out _ _ _ Hz10.out Hb10.out).mono ?_); rintro e w11 ⟨rfl, hb11⟩; have Ha11 := Lib.hid (Ha10.out.below hb11 (Nat.le_refl _)); have Hb11 := Lib.hid (Hb10.out.below hb11 (Nat.le_refl _)); have Hd11 := Lib.hid (Hd10.out.below hb11 (Nat.le_refl _)); have Hz11 := Lib.hid (Hz10.out.below hb11 (Nat.le_refl _)); have HB11 := Lib.hid (below_add HB10.out hb11 HB10.out.size))
    | (go_at_call 26; with_reducible (refine (HC8.out _ _ _ Ha11.out Ha11.out).mono ?_); rintro e w12 ⟨ua, uc, rfl, hb12⟩; have Ha12 := Lib.hid (Ha11.out.below hb12 (Nat.le_refl _)); have Hb12 := Lib.hid (Hb11.out.below hb12 (Nat.le_refl _)); have HB12 := Lib.hid (below_add HB11.out hb12 HB11.out.size))
    | (go_at_call 26; with_reducible (refine (HC5.out _ _ _ Ha12.out Hb12.out).mono ?_); rintro e w13 ⟨u13, rfl, Hd213, hb13⟩; have Ha13 := Lib.hid (Ha12.out.below hb13 (Nat.le_refl _)); have Hb13 := Lib.hid (Hb12.out.below hb13 (Nat.le_refl _)); have HB13 := Lib.hid (below_add HB12.out hb13 HB12.out.size))
    | (go_at_call 25; with_reducible (refine (HC9.out _ _ _ Ha13.out Hd213.out).mono ?_); rintro e w14 ⟨u14, rfl, Hj14, hb14⟩; have Ha14 := Lib.hid (Ha13.out.below hb14 (Nat.le_refl _)); have Hb14 := Lib.hid (Hb13.out.below hb14 (Nat.le_refl _)); have Hd214 := Lib.hid (Hd213.out.below hb14 (Nat.le_refl _)); have HB14 := Lib.hid (below_add HB13.out hb14 HB13.out.size))
    | (go_at_call 26; with_reducible (refine (HC10.out _ _ _ Hb14.out Ha14.out).mono ?_); rintro e w15 ⟨u15, rfl, Hk15, hb15⟩; have Ha15 := Lib.hid (Ha14.out.below hb15 (Nat.le_refl _)); have Hb15 := Lib.hid (Hb14.out.below hb15 (Nat.le_refl _)); have Hd215 := Lib.hid (Hd214.out.below hb15 (Nat.le_refl _)); have Hj15 := Lib.hid (Hj14.out.below hb15 (Nat.le_refl _)); have HB15 := Lib.hid (below_add HB14.out hb15 HB14.out.size))
    | (go_at_call 15; with_reducible (refine (HC11.out _ _ _ Hj15.out Hk15.out).mono ?_); rintro e w16 ⟨rfl, hb16⟩; have Ha16 := Lib.hid (Ha15.out.below hb16 (Nat.le_refl _)); have Hb16 := Lib.hid (Hb15.out.below hb16 (Nat.le_refl _)); have Hd216 := Lib.hid (Hd215.out.below hb16 (Nat.le_refl _)); have Hj16 := Lib.hid (Hj15.out.below hb16 (Nat.le_refl _)); have Hk16 := Lib.hid (Hk15.out.below hb16 (Nat.le_refl _)); have HB16 := Lib.hid (below_add HB15.out hb16 HB15.out.size))
    | (go_at_call 10; with_reducible (refine (HK.out _).mono ?_); rintro e w17 ⟨rfl, hb17⟩; have Ha17 := Lib.hid (Ha16.out.below hb17 (Nat.le_refl _)); have Hb17 := Lib.hid (Hb16.out.below hb17 (Nat.le_refl _)); have Hd217 := Lib.hid (Hd216.out.below hb17 (Nat.le_refl _)); have Hj17 := Lib.hid (Hj16.out.below hb17 (Nat.le_refl _)); have Hk17 := Lib.hid (Hk16.out.below hb17 (Nat.le_refl _)); have HB17 := Lib.hid (below_add HB16.out hb17 HB16.out.size)))
  go_ret
  exact ⟨rfl, HB17.out⟩
end Go.Proofs.Ytkejebjppnhidaa
