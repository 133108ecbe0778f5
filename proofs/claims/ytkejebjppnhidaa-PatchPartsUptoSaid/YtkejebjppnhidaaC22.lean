
import Derived.Test.YtkejebjppnhidaaC20
import Derived.Test.YtkejebjppnhidaaC21
/- C22: PatchParts -/
namespace Go.Proofs.Ytkejebjppnhidaa
open Go.RowKit
set_option linter.unusedVariables false

theorem rise_may {ks : List Key} (hk : ks.length ≤ 64) {p : List Chg} (h : may6 ks p = 0) : RiseC p ∧ p.length ≤ 64 ∧ p.all (isIn ks) = true := by
  obtain ⟨h1, -, -, h4⟩ := may6_zero.1 h
  obtain ⟨hr, hl, -⟩ := wf6_parts h1
  exact ⟨hr, hl, h4⟩
theorem parts_h (ks : List Key) (p : List Chg) (blk : Bool) (hW : ∀ a ∈ p, ChgW a) (hl : p.length * 56 ≤ 140737488355328) (pv v : Value) (W : World) (hs : Sch W pv ks) (hv : Crow W v p) :
    Calls Try.prog 18 #[pv, v, .bool blk] W fun e w' => ∃ ua uc, e = .returned (.slice ua (part6 ks blk p).length uc) ∧ Hid (Crow w' (.slice ua (part6 ks blk p).length uc) (part6 ks blk p)) ∧ Below W.heap.size W w' :=
  (part_any6 pv ks v p blk W hs hv hW hl).mono fun e w' ⟨u, he, ho, hb⟩ => by
    have hr := own6_row ho
    obtain ⟨ua, uc, rfl⟩ := hr.shape
    exact ⟨ua, uc, he, Lib.hid hr, hb⟩
theorem vneq_self (k n f : Int) (s : ByteArray) (w : World) : (binOp .neq 50 (val k n f s) (val k n f s)).run Try.prog w = .ok (.bool false) w := by
  rw [vneq]; simp

set_option maxRecDepth 100000 in
set_option maxHeartbeats 4000000 in
theorem parts_walk (kv v2 : Value) (ab : Option Addr) (an ac : Nat) (ks : List Key) (a : List Att) (p : List Chg) (w : World) (hk : Krow w kv ks) (yk : ∀ k ∈ ks, KeyW k) (ha : Arow w (.slice ab an ac) a) (hp : Crow w v2 p) (yp : ∀ a ∈ p, ChgW a)
    (za : totA a ≤ 1048576) (zp : totC p ≤ 1048576) :
    Calls Try.prog 7 #[kv, .slice ab an ac, v2] w fun e w' => e = .returned (.bool true) ∧ Below w.heap.size w w' := by
  have HK := Lib.hid (fun w => known_h w)
  have hlk := hk.len
  have hk2 := hk
  obtain ⟨kb, kcap, rfl⟩ := hk2.shape
  have hp2 := hp
  obtain ⟨pb, pc, rfl⟩ := hp2.shape
  obtain rfl : an = a.length := row_size ha
  have la := totA_len za
  have lp := totC_len zp
  by_cases hk64 : 64 < ks.length
  · have d1 : decide ((64 : Int) < (ks.length : Int)) = true := by rw [decide_eq_true_iff]; omega
    have HB0 := Lib.hid (Below.refl w.heap.size w)
    clear hk hk2 yk ha hp hp2 yp za zp hk64
    go_enter Try.func7, Try.ntmps7
    go_wp2_with (go_at_call 10; with_reducible (refine (HK.out _).mono ?_); rintro e w99 ⟨rfl, hb99⟩; have HB99 := Lib.hid (below_add HB0.out hb99 HB0.out.size))
    go_ret
    exact ⟨rfl, HB99.out⟩
  have d1 : decide ((64 : Int) < (ks.length : Int)) = false := by rw [decide_eq_false_iff_not]; omega
  have hB0 : Below w.heap.size w (w.alloc (.cells #[.slice ab a.length ac] 39)) := (Below.refl _ _).alloc (Nat.le_refl _) _
  obtain ⟨g1, hg1⟩ : ∃ b, grt p [a] = b := ⟨_, rfl⟩
  obtain ⟨r0, hr0⟩ : ∃ s, decide (Rise a) = s := ⟨_, rfl⟩
  have HG1 := Lib.hid (great1_h p a g1 hg1 (.slice pb p.length pc) ab a.length ac w hp ha 39)
  have HR0 := Lib.hid (riseA_h a r0 hr0)
  have Hk0 := Lib.hid (hk.below hB0 (Nat.le_refl _))
  have Ha0 := Lib.hid (ha.below hB0 (Nat.le_refl _))
  have Hp0 := Lib.hid (hp.below hB0 (Nat.le_refl _))
  have HB0 := Lib.hid hB0
  clear hk hk2 ha hp hp2 hB0 hg1 za zp
  by_cases qg1 : g1 = true
  · subst qg1
    go_enter Try.func7, Try.ntmps7
    go_wp2_with (first
      | (go_at_call 9; with_reducible (refine (HG1.out).mono ?_); rintro e w1 ⟨rfl, hb1⟩; have Hk1 := Lib.hid (Hk0.out.below hb1 (Nat.le_refl _)); have Ha1 := Lib.hid (Ha0.out.below hb1 (Nat.le_refl _)); have Hp1 := Lib.hid (Hp0.out.below hb1 (Nat.le_refl _)); have HB1 := Lib.hid (below_add HB0.out hb1 HB0.out.size))
      | (go_at_call 10; with_reducible (refine (HK.out _).mono ?_); rintro e w99 ⟨rfl, hb99⟩; have HB99 := Lib.hid (below_add HB1.out hb99 HB1.out.size)))
    go_ret
    exact ⟨rfl, HB99.out⟩
  obtain rfl : g1 = false := by revert qg1; cases g1 <;> simp
  clear qg1
  by_cases qr0 : r0 = false
  · subst qr0
    go_enter Try.func7, Try.ntmps7
    go_wp2_with (first
      | (go_at_call 9; with_reducible (refine (HG1.out).mono ?_); rintro e w1 ⟨rfl, hb1⟩; have Hk1 := Lib.hid (Hk0.out.below hb1 (Nat.le_refl _)); have Ha1 := Lib.hid (Ha0.out.below hb1 (Nat.le_refl _)); have Hp1 := Lib.hid (Hp0.out.below hb1 (Nat.le_refl _)); have HB1 := Lib.hid (below_add HB0.out hb1 HB0.out.size))
      | (go_at_call 21; with_reducible (refine (HR0.out _ _ Ha1.out).mono ?_); rintro e w2 ⟨rfl, hb2⟩; have Hk2 := Lib.hid (Hk1.out.below hb2 (Nat.le_refl _)); have Ha2 := Lib.hid (Ha1.out.below hb2 (Nat.le_refl _)); have Hp2 := Lib.hid (Hp1.out.below hb2 (Nat.le_refl _)); have HB2 := Lib.hid (below_add HB1.out hb2 HB1.out.size))
      | (go_at_call 10; with_reducible (refine (HK.out _).mono ?_); rintro e w99 ⟨rfl, hb99⟩; have HB99 := Lib.hid (below_add HB2.out hb99 HB2.out.size)))
    go_ret
    exact ⟨rfl, HB99.out⟩
  obtain rfl : r0 = true := by revert qr0; cases r0 <;> simp
  clear qr0
  by_cases hm : mayKs ks
  rotate_left
  · have HN := Lib.hid (newno_h ks yk hm)
    clear hm yk yp hr0 la lp hk64
    go_enter Try.func7, Try.ntmps7
    go_wp2_with (first
      | (go_at_call 9; with_reducible (refine (HG1.out).mono ?_); rintro e w1 ⟨rfl, hb1⟩; have Hk1 := Lib.hid (Hk0.out.below hb1 (Nat.le_refl _)); have Ha1 := Lib.hid (Ha0.out.below hb1 (Nat.le_refl _)); have Hp1 := Lib.hid (Hp0.out.below hb1 (Nat.le_refl _)); have HB1 := Lib.hid (below_add HB0.out hb1 HB0.out.size))
      | (go_at_call 21; with_reducible (refine (HR0.out _ _ Ha1.out).mono ?_); rintro e w2 ⟨rfl, hb2⟩; have Hk2 := Lib.hid (Hk1.out.below hb2 (Nat.le_refl _)); have Ha2 := Lib.hid (Ha1.out.below hb2 (Nat.le_refl _)); have Hp2 := Lib.hid (Hp1.out.below hb2 (Nat.le_refl _)); have HB2 := Lib.hid (below_add HB1.out hb2 HB1.out.size))
      | (go_at_call 11; with_reducible (refine (HN.out _ _ Hk2.out).mono ?_); rintro e w3 ⟨rfl, hb3⟩; have Hk3 := Lib.hid (Hk2.out.below hb3 (Nat.le_refl _)); have Ha3 := Lib.hid (Ha2.out.below hb3 (Nat.le_refl _)); have Hp3 := Lib.hid (Hp2.out.below hb3 (Nat.le_refl _)); have HB3 := Lib.hid (below_add HB2.out hb3 HB2.out.size))
      | (go_at_call 10; with_reducible (refine (HK.out _).mono ?_); rintro e w4 ⟨rfl, hb4⟩; have Hk4 := Lib.hid (Hk3.out.below hb4 (Nat.le_refl _)); have Ha4 := Lib.hid (Ha3.out.below hb4 (Nat.le_refl _)); have Hp4 := Lib.hid (Hp3.out.below hb4 (Nat.le_refl _)); have HB4 := Lib.hid (below_add HB3.out hb4 HB3.out.size)))
    go_ret
    exact ⟨rfl, HB4.out⟩
  have HN := Lib.hid (new_h ks yk hm)
  by_cases hz : may6 ks p = 0
  rotate_left
  · obtain ⟨m, hm6⟩ : ∃ m, may6 ks p = m := ⟨_, rfl⟩
    have HC1 := Lib.hid (may6_h ks p m hm6 yp)
    have hmz : (m != 0) = true := by rw [← hm6]; simpa using hz
    clear hm yk yp hr0 la lp hk64 hz hm6
    go_enter Try.func7, Try.ntmps7
    go_wp2_with (first
      | (go_at_call 9; with_reducible (refine (HG1.out).mono ?_); rintro e w1 ⟨rfl, hb1⟩; have Hk1 := Lib.hid (Hk0.out.below hb1 (Nat.le_refl _)); have Ha1 := Lib.hid (Ha0.out.below hb1 (Nat.le_refl _)); have Hp1 := Lib.hid (Hp0.out.below hb1 (Nat.le_refl _)); have HB1 := Lib.hid (below_add HB0.out hb1 HB0.out.size))
      | (go_at_call 21; with_reducible (refine (HR0.out _ _ Ha1.out).mono ?_); rintro e w2 ⟨rfl, hb2⟩; have Hk2 := Lib.hid (Hk1.out.below hb2 (Nat.le_refl _)); have Ha2 := Lib.hid (Ha1.out.below hb2 (Nat.le_refl _)); have Hp2 := Lib.hid (Hp1.out.below hb2 (Nat.le_refl _)); have HB2 := Lib.hid (below_add HB1.out hb2 HB1.out.size))
      | (go_at_call 11; with_reducible (refine (HN.out _ _ Hk2.out).mono ?_); rintro e w3 ⟨s, rfl, Hs3, hb3⟩; have Hk3 := Lib.hid (Hk2.out.below hb3 (Nat.le_refl _)); have Ha3 := Lib.hid (Ha2.out.below hb3 (Nat.le_refl _)); have Hp3 := Lib.hid (Hp2.out.below hb3 (Nat.le_refl _)); have HB3 := Lib.hid (below_add HB2.out hb3 HB2.out.size))
      | (go_at_call 13; with_reducible (refine (HC1.out _ _ _ Hs3.out Hp3.out).mono ?_); rintro e w4 ⟨rfl, hb4⟩; have Hk4 := Lib.hid (Hk3.out.below hb4 (Nat.le_refl _)); have Ha4 := Lib.hid (Ha3.out.below hb4 (Nat.le_refl _)); have Hp4 := Lib.hid (Hp3.out.below hb4 (Nat.le_refl _)); have Hs4 := Lib.hid (Hs3.out.below hb4 (Nat.le_refl _)); have HB4 := Lib.hid (below_add HB3.out hb4 HB3.out.size))
      | (go_at_call 10; with_reducible (refine (HK.out _).mono ?_); rintro e w5 ⟨rfl, hb5⟩; have Hk5 := Lib.hid (Hk4.out.below hb5 (Nat.le_refl _)); have Ha5 := Lib.hid (Ha4.out.below hb5 (Nat.le_refl _)); have Hp5 := Lib.hid (Hp4.out.below hb5 (Nat.le_refl _)); have Hs5 := Lib.hid (Hs4.out.below hb5 (Nat.le_refl _)); have HB5 := Lib.hid (below_add HB4.out hb5 HB4.out.size)))
    go_ret
    exact ⟨rfl, HB5.out⟩
  obtain ⟨qp, hl64, hin⟩ := rise_may hm.1 hz
  have qa := of_decide_eq_true hr0
  have s1 := app_len a p
  have s2 := app_len a (part6 ks false p)
  have s3 := app_len a (part6 ks true p)
  have s4 := cpart_le ks true p
  have s5 := cpart_le ks false p
  have hsum := part_sum hin
  have hsum2 : ((part6 ks false p).length : Int) + ((part6 ks true p).length : Int) = (p.length : Int) := by omega
  have HC1 := Lib.hid (may6_h ks p 0 hz yp)
  have HC2 := Lib.hid (parts_h ks p false yp (by omega))
  have HC3 := Lib.hid (parts_h ks p true yp (by omega))
  have HC4 := Lib.hid (app_h a p _ rfl (by omega))
  have HC5 := Lib.hid (app_h a (part6 ks false p) _ rfl (by omega))
  have HC6 := Lib.hid (app_h (app a (part6 ks false p)) (part6 ks true p) _ (parts_app qa qp hin false) (by omega))
  have HC7 := Lib.hid (sameA_h (app a p) (app a p) rfl)
  have HC8 := Lib.hid (app_h a (part6 ks true p) _ rfl (by omega))
  have HC9 := Lib.hid (app_h (app a (part6 ks true p)) (part6 ks false p) _ (parts_app qa qp hin true) (by omega))
  have HC10 := Lib.hid (app_h (app a p) p _ (app_twice qa qp) (by omega))
  have HLV := Lib.hid (fun c (h : c ∈ a) (hn : getC p c.key = none) => app_leaves qa qp h hn)
  clear hm hz yk yp hr0 s1 s2 s3 qa qp hin hsum hk64
  generalize part6 ks false p = A at *
  generalize part6 ks true p = B at *
  generalize app a p = V at *
  go_enter Try.func7, Try.ntmps7
  go_wp2_with (first
    | (go_at_call 9; with_reducible (refine (HG1.out).mono ?_); rintro e w1 ⟨rfl, hb1⟩; have Hk1 := Lib.hid (Hk0.out.below hb1 (Nat.le_refl _)); have Ha1 := Lib.hid (Ha0.out.below hb1 (Nat.le_refl _)); have Hp1 := Lib.hid (Hp0.out.below hb1 (Nat.le_refl _)); have HB1 := Lib.hid (below_add HB0.out hb1 HB0.out.size))
    | (go_at_call 21; with_reducible (refine (HR0.out _ _ Ha1.out).mono ?_); rintro e w2 ⟨rfl, hb2⟩; have Hk2 := Lib.hid (Hk1.out.below hb2 (Nat.le_refl _)); have Ha2 := Lib.hid (Ha1.out.below hb2 (Nat.le_refl _)); have Hp2 := Lib.hid (Hp1.out.below hb2 (Nat.le_refl _)); have HB2 := Lib.hid (below_add HB1.out hb2 HB1.out.size))
    | (go_at_call 11; with_reducible (refine (HN.out _ _ Hk2.out).mono ?_); rintro e w3 ⟨s, rfl, Hs3, hb3⟩; have Hk3 := Lib.hid (Hk2.out.below hb3 (Nat.le_refl _)); have Ha3 := Lib.hid (Ha2.out.below hb3 (Nat.le_refl _)); have Hp3 := Lib.hid (Hp2.out.below hb3 (Nat.le_refl _)); have HB3 := Lib.hid (below_add HB2.out hb3 HB2.out.size))
    | (go_at_call 13; with_reducible (refine (HC1.out _ _ _ Hs3.out Hp3.out).mono ?_); rintro e w4 ⟨rfl, hb4⟩; have Hk4 := Lib.hid (Hk3.out.below hb4 (Nat.le_refl _)); have Ha4 := Lib.hid (Ha3.out.below hb4 (Nat.le_refl _)); have Hp4 := Lib.hid (Hp3.out.below hb4 (Nat.le_refl _)); have Hs4 := Lib.hid (Hs3.out.below hb4 (Nat.le_refl _)); have HB4 := Lib.hid (below_add HB3.out hb4 HB3.out.size))
    | (go_at_call 18; with_reducible (refine (HC2.out _ _ _ Hs4.out Hp4.out).mono ?_); rintro e w5 ⟨xa, xc, rfl, Hx5, hb5⟩; have Ha5 := Lib.hid (Ha4.out.below hb5 (Nat.le_refl _)); have Hp5 := Lib.hid (Hp4.out.below hb5 (Nat.le_refl _)); have Hs5 := Lib.hid (Hs4.out.below hb5 (Nat.le_refl _)); have HB5 := Lib.hid (below_add HB4.out hb5 HB4.out.size))
    | (go_at_call 18; with_reducible (refine (HC3.out _ _ _ Hs5.out Hp5.out).mono ?_); rintro e w6 ⟨ya, yc, rfl, Hy6, hb6⟩; have Ha6 := Lib.hid (Ha5.out.below hb6 (Nat.le_refl _)); have Hp6 := Lib.hid (Hp5.out.below hb6 (Nat.le_refl _)); have Hs6 := Lib.hid (Hs5.out.below hb6 (Nat.le_refl _)); have Hx6 := Lib.hid (Hx5.out.below hb6 (Nat.le_refl _)); have HB6 := Lib.hid (below_add HB5.out hb6 HB5.out.size))
    | (go_at_call 23; with_reducible (refine (HC4.out _ _ _ Ha6.out Hp6.out).mono ?_); rintro e w7 ⟨u7, rfl, HW7, hb7⟩; have Ha7 := Lib.hid (Ha6.out.below hb7 (Nat.le_refl _)); have Hp7 := Lib.hid (Hp6.out.below hb7 (Nat.le_refl _)); have Hx7 := Lib.hid (Hx6.out.below hb7 (Nat.le_refl _)); have Hy7 := Lib.hid (Hy6.out.below hb7 (Nat.le_refl _)); have HB7 := Lib.hid (below_add HB6.out hb7 HB6.out.size))
    | (go_at_call 23; with_reducible (refine (HC5.out _ _ _ Ha7.out Hx7.out).mono ?_); rintro e w8 ⟨u8, rfl, Hu8, hb8⟩; have Ha8 := Lib.hid (Ha7.out.below hb8 (Nat.le_refl _)); have Hp8 := Lib.hid (Hp7.out.below hb8 (Nat.le_refl _)); have Hx8 := Lib.hid (Hx7.out.below hb8 (Nat.le_refl _)); have Hy8 := Lib.hid (Hy7.out.below hb8 (Nat.le_refl _)); have HW8 := Lib.hid (HW7.out.below hb8 (Nat.le_refl _)); have HB8 := Lib.hid (below_add HB7.out hb8 HB7.out.size))
    | (go_at_call 23; with_reducible (refine (HC6.out _ _ _ Hu8.out Hy8.out).mono ?_); rintro e w9 ⟨u9, rfl, Hv9, hb9⟩; have Ha9 := Lib.hid (Ha8.out.below hb9 (Nat.le_refl _)); have Hp9 := Lib.hid (Hp8.out.below hb9 (Nat.le_refl _)); have Hx9 := Lib.hid (Hx8.out.below hb9 (Nat.le_refl _)); have Hy9 := Lib.hid (Hy8.out.below hb9 (Nat.le_refl _)); have HW9 := Lib.hid (HW8.out.below hb9 (Nat.le_refl _)); have Hu9 := Lib.hid (Hu8.out.below hb9 (Nat.le_refl _)); have HB9 := Lib.hid (below_add HB8.out hb9 HB8.out.size))
    | (go_at_call 22; with_reducible (refine (HC7.out _ _ _ Hv9.out HW9.out).mono ?_); rintro e w10 ⟨rfl, hb10⟩; have Ha10 := Lib.hid (Ha9.out.below hb10 (Nat.le_refl _)); have Hp10 := Lib.hid (Hp9.out.below hb10 (Nat.le_refl _)); have Hx10 := Lib.hid (Hx9.out.below hb10 (Nat.le_refl _)); have Hy10 := Lib.hid (Hy9.out.below hb10 (Nat.le_refl _)); have HW10 := Lib.hid (HW9.out.below hb10 (Nat.le_refl _)); have Hu10 := Lib.hid (Hu9.out.below hb10 (Nat.le_refl _)); have Hv10 := Lib.hid (Hv9.out.below hb10 (Nat.le_refl _)); have HB10 := Lib.hid (below_add HB9.out hb10 HB9.out.size))
    | (go_at_call 23; with_reducible (refine (HC8.out _ _ _ Ha10.out Hy10.out).mono ?_); rintro e w11 ⟨u11, rfl, Ht11, hb11⟩; have Ha11 := Lib.hid (Ha10.out.below hb11 (Nat.le_refl _)); have Hp11 := Lib.hid (Hp10.out.below hb11 (Nat.le_refl _)); have Hx11 := Lib.hid (Hx10.out.below hb11 (Nat.le_refl _)); have Hy11 := Lib.hid (Hy10.out.below hb11 (Nat.le_refl _)); have HW11 := Lib.hid (HW10.out.below hb11 (Nat.le_refl _)); have HB11 := Lib.hid (below_add HB10.out hb11 HB10.out.size))
    | (go_at_call 23; with_reducible (refine (HC9.out _ _ _ Ht11.out Hx11.out).mono ?_); rintro e w12 ⟨u12, rfl, Hz12, hb12⟩; have Ha12 := Lib.hid (Ha11.out.below hb12 (Nat.le_refl _)); have Hp12 := Lib.hid (Hp11.out.below hb12 (Nat.le_refl _)); have Hx12 := Lib.hid (Hx11.out.below hb12 (Nat.le_refl _)); have Hy12 := Lib.hid (Hy11.out.below hb12 (Nat.le_refl _)); have HW12 := Lib.hid (HW11.out.below hb12 (Nat.le_refl _)); have Ht12 := Lib.hid (Ht11.out.below hb12 (Nat.le_refl _)); have HB12 := Lib.hid (below_add HB11.out hb12 HB11.out.size))
    | (go_at_call 22; with_reducible (refine (HC7.out _ _ _ Hz12.out HW12.out).mono ?_); rintro e w13 ⟨rfl, hb13⟩; have Ha13 := Lib.hid (Ha12.out.below hb13 (Nat.le_refl _)); have Hp13 := Lib.hid (Hp12.out.below hb13 (Nat.le_refl _)); have Hx13 := Lib.hid (Hx12.out.below hb13 (Nat.le_refl _)); have Hy13 := Lib.hid (Hy12.out.below hb13 (Nat.le_refl _)); have HW13 := Lib.hid (HW12.out.below hb13 (Nat.le_refl _)); have Ht13 := Lib.hid (Ht12.out.below hb13 (Nat.le_refl _)); have Hz13 := Lib.hid (Hz12.out.below hb13 (Nat.le_refl _)); have HB13 := Lib.hid (below_add HB12.out hb13 HB12.out.size))
    | (go_at_call 23; with_reducible (refine (HC10.out _ _ _ HW13.out Hp13.out).mono ?_); rintro e w14 ⟨u14, rfl, Hq14, hb14⟩; have Ha14 := Lib.hid (Ha13.out.below hb14 (Nat.le_refl _)); have Hp14 := Lib.hid (Hp13.out.below hb14 (Nat.le_refl _)); have HW14 := Lib.hid (HW13.out.below hb14 (Nat.le_refl _)); have HB14 := Lib.hid (below_add HB13.out hb14 HB13.out.size))
    | (go_at_call 22; with_reducible (refine (HC7.out _ _ _ Hq14.out HW14.out).mono ?_); rintro e w15 ⟨rfl, hb15⟩; have Ha15 := Lib.hid (Ha14.out.below hb15 (Nat.le_refl _)); have Hp15 := Lib.hid (Hp14.out.below hb15 (Nat.le_refl _)); have HW15 := Lib.hid (HW14.out.below hb15 (Nat.le_refl _)); have Hq15 := Lib.hid (Hq14.out.below hb15 (Nat.le_refl _)); have HB15 := Lib.hid (below_add HB14.out hb15 HB14.out.size)))
  have hrow := Ha15.out
  have HFD := Lib.hid (fun key w' (h : Below w15.heap.size w15 w') => rfind6_any _ p key w' (Hp15.out.below h (Nat.le_refl _)))
  have HGT := Lib.hid (fun key w' (h : Below w15.heap.size w15 w') => rget_any5 _ V key w' (HW15.out.below h (Nat.le_refl _)))
  by_cases h0 : 0 < a.length
  · obtain ⟨b1, o1, rfl, -, -, -, hbl, hat⟩ := Arow.opn hrow h0
    have HAT := Lib.hid hat
    clear hrow hat
    go_loopw [93] (fun s93 wr => ∃ k : Nat, k ≤ a.length ∧ s93 = .int .i64 k ∧ Below w15.heap.size w15 wr) (fun s93 _ => a.length - (intOf s93).toNat)
    case atStart => exact ⟨0, Nat.zero_le _, rfl, Below.refl _ _⟩
    case round =>
      obtain ⟨k, hk, rfl, hb⟩ := hrel
      by_cases hlt : k < a.length
      · have hAT := (HAT.out k hlt).below hb hbl
        have hLV := HLV.out _ (List.getElem_mem hlt)
        generalize a[k] = x at *
        have HF := Lib.hid (HFD.out x.key wr hb)
        have HBR := Lib.hid hb
        have HA9 := Lib.hid hAT
        obtain ⟨x1, x2, x3, x4, x5⟩ := x
        obtain ⟨c0, -, -, -, -⟩ := hAT
        simp only at c0 HF hLV
        clear hb
        cases hf : getC p x1 with
        | some ch =>
          have h9 := HF.out
          rw [getCV_some hf] at h9
          have HF9 := Lib.hid h9
          clear h9 HF hf hLV
          obtain ⟨y1, y0, y2, y3, y4, y5⟩ := ch
          go_wp2_with (go_at_call 28; refine HF9.out.mono ?_; rintro e w50 ⟨rfl, hb50⟩)
          have hb51 := below_add HBR.out hb50 HBR.out.size
          have HB52 := Lib.hid (hb51.alloc hb51.size (.cells (cca ⟨y1, y0, y2, y3, y4, y5⟩) 52))
          clear hb50 hb51
          go_roundw
          case rel => exact ⟨k + 1, by omega, by go_num, HB52.out⟩
          case measure => simp [intOf]; omega
        | none =>
          have h9 := HF.out
          rw [getCV_none hf] at h9
          have HF9 := Lib.hid h9
          have hG := hLV hf
          clear h9 HF hf hLV
          have HG9 := Lib.hid (fun w' (h : Below w15.heap.size w15 w') => by have h8 := HGT.out x1 w' h; rw [getV_some hG] at h8; exact h8)
          have HBL := Lib.hid (Nat.lt_of_lt_of_le hbl HBR.out.size)
          go_wp2_with (first
            | (go_at_call 28; refine HF9.out.mono ?_; rintro e w50 ⟨rfl, hb50⟩; have hb51 := below_add HBR.out hb50 HBR.out.size; have hb52 := hb50.alloc hb50.size (.cells (cca noChg) 52); have HB52 := Lib.hid (hb51.alloc hb51.size (.cells (cca noChg) 52)); have HA10 := Lib.hid (HA9.out.below hb52 HBL.out); obtain ⟨e0, e1, e2, e3, e4⟩ := HA10.out)
            | (go_at_call 29; refine (HG9.out _ HB52.out).mono ?_; rintro e w60 ⟨rfl, hb60⟩))
          have hbl52 := Nat.lt_of_lt_of_le hbl HB52.out.size
          have hb61 := below_add HB52.out hb60 HB52.out.size
          have HB62 := Lib.hid (hb61.alloc hb61.size (.cells (vcells x2 x3 x4 x5) 50))
          obtain ⟨f0, f1, f2, f3, f4⟩ := (HA10.out.below hb60 hbl52).below ((Below.refl _ _).alloc (Nat.le_refl _) (.cells (vcells x2 x3 x4 x5) 50)) (Nat.lt_of_lt_of_le hbl52 hb60.size)
          obtain ⟨j0, j1, j2, j3⟩ := At.box x2 x3 x4 x5 w60 50
          simp only at f0 f1 f2 f3 f4
          have hq := fun w => vneq_self x2 x3 x4 x5 w
          clear hb60 hb61 hb50 hb51 hb52 e0 e1 e2 e3 e4 c0
          go_quiet (fail)
          go_wp2
          go_roundw
          case rel => exact ⟨k + 1, by omega, by go_num, blw_drewN HB62.out _⟩
          case measure => simp [intOf]; omega
      · obtain rfl : k = a.length := by omega
        have HBR := Lib.hid (below_add HB15.out hb HB15.out.size)
        clear hb
        go_wp2_with (go_at_call 10; with_reducible (refine (HK.out _).mono ?_); rintro e w61 ⟨rfl, hb61⟩; have HB61 := Lib.hid (below_add HBR.out hb61 HBR.out.size))
        go_ret
        exact ⟨rfl, HB61.out⟩
  · obtain rfl : a = [] := List.eq_nil_of_length_eq_zero (by omega)
    clear hrow h0
    refine wp_loop_rounds 1 ?_
    rw [rounds_succ]
    go_wp2_with (go_at_call 10; with_reducible (refine (HK.out _).mono ?_); rintro e w61 ⟨rfl, hb61⟩; have HB61 := Lib.hid (below_add HB15.out hb61 HB15.out.size))
    go_ret
    exact ⟨rfl, HB61.out⟩
end Go.Proofs.Ytkejebjppnhidaa
