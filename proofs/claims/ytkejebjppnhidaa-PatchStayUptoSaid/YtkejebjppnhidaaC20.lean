
import Derived.Test.YtkejebjppnhidaaC15
import Derived.Test.YtkejebjppnhidaaC7
import Derived.Test.YtkejebjppnhidaaS11
import Derived.Test.YtkejebjppnhidaaS25
/- C20: PatchMay -/
namespace Go.Proofs.Ytkejebjppnhidaa
open Go.RowKit
set_option linter.unusedVariables false

theorem new_h (ks : List Key) (hW : ∀ k ∈ ks, KeyW k) (hm : mayKs ks) (v : Value) (W : World) (hv : Krow W v ks) :
    Calls Try.prog 11 #[v] W fun e w' => ∃ s, e = .returned (.tuple #[.pointer (some s), .int .i64 0]) ∧ Hid (Sch w' (.pointer (some s)) ks) ∧ Below W.heap.size W w' :=
  (new_yes hv hW hm).mono fun e w' ⟨s, he, hs, hb⟩ => ⟨s, he, Lib.hid hs, hb⟩
theorem newno_h (ks : List Key) (hW : ∀ k ∈ ks, KeyW k) (hm : ¬ mayKs ks) (v : Value) (W : World) (hv : Krow W v ks) :
    Calls Try.prog 11 #[v] W fun e w' => e = .returned (.tuple #[.pointer none, .int .i64 3]) ∧ Below W.heap.size W w' := new_no hv hW hm
theorem rkeysno_h (ks : List Key) (hm : ¬ mayKs ks) (v : Value) (W : World) (hv : Krow W v ks) :
    Calls Try.prog 12 #[v] W fun e w' => e = .returned (.bool false) ∧ Below W.heap.size W w' :=
  (rmay_keys v ks W hv).mono fun e w' ⟨hb, b, he, hi⟩ => ⟨by rw [he]; cases b with | false => rfl | true => exact absurd (hi.1 rfl) hm, hb⟩
theorem may6_h (ks : List Key) (p : List Chg) (m : Int) (h : may6 ks p = m) (hW : ∀ a ∈ p, ChgW a) (pv v : Value) (W : World) (hs : Sch W pv ks) (hv : Crow W v p) :
    Calls Try.prog 13 #[pv, v] W fun e w' => e = .returned (.int .i64 m) ∧ Below W.heap.size W w' := by
  rw [← h]; exact may_any6 pv ks v p W hs hv hW
theorem rmay6_h (ks : List Key) (p : List Chg) (m : Int) (h : may6 ks p = m) (hW : ∀ a ∈ p, ChgW a) (hS : p.length ≤ 64 → ∀ a ∈ p, a.s.size ≤ 1000000) (pv v : Value) (W : World) (hs : Krow W pv ks) (hv : Crow W v p) :
    Calls Try.prog 14 #[pv, v] W fun e w' => e = .returned (.int .i64 m) ∧ Below W.heap.size W w' := by
  rw [← h]; exact rmay_any6 pv ks v p W hs hv hW hS
theorem part6_h (ks : List Key) (p : List Chg) (blk : Bool) (hW : ∀ a ∈ p, ChgW a) (hl : p.length * 56 ≤ 140737488355328) (pv v : Value) (W : World) (hs : Sch W pv ks) (hv : Crow W v p) :
    Calls Try.prog 18 #[pv, v, .bool blk] W fun e w' => ∃ u, e = .returned u ∧ Hid (Crow w' u (part6 ks blk p)) ∧ Below W.heap.size W w' :=
  (part_any6 pv ks v p blk W hs hv hW hl).mono fun e w' ⟨u, he, ho, hb⟩ => ⟨u, he, Lib.hid (own6_row ho), hb⟩
theorem rpart6_h (ks : List Key) (p : List Chg) (blk : Bool) (hl : p.length * 56 ≤ 140737488355328) (pv v : Value) (W : World) (hs : Krow W pv ks) (hv : Crow W v p) :
    Calls Try.prog 20 #[pv, v, .bool blk] W fun e w' => ∃ u, e = .returned u ∧ Hid (Crow w' u (part6 ks blk p)) ∧ Below W.heap.size W w' :=
  (rpart_any6 pv ks v p blk W hs hv hl).mono fun e w' ⟨u, he, ho, hb⟩ => ⟨u, he, Lib.hid (own6_row ho), hb⟩
theorem copy6_h (p : List Chg) (hl : p.length * 56 ≤ 140737488355328) (v : Value) (W : World) (hv : Crow W v p) :
    Calls Try.prog 17 #[v] W fun e w' => ∃ u, e = .returned u ∧ Hid (Crow w' u p) ∧ Below W.heap.size W w' :=
  (copy_any6 v p W hv hl).mono fun e w' ⟨u, he, ho, hb⟩ => ⟨u, he, Lib.hid (own6_row ho), hb⟩
theorem sizeC_max {p : List Chg} {B : Nat} (h : ∀ c ∈ p, c.s.size ≤ B) : sizeC p ≤ p.length * B := by
  induction p with
  | nil => simp [sizeC]
  | cons x r ih =>
    have h1 := ih fun c hc => h c (by simp [hc])
    have h2 := h x (by simp)
    have e : sizeC (x :: r) = x.s.size + sizeC r := by simp [sizeC]
    rw [e, List.length_cons, Nat.add_mul]
    omega
/-- What is not great, and has no more than 64 changes, is small. -/
theorem small_of {p : List Chg} (hg : grt p [] = false) (hs : ∀ c ∈ p, c.s.size ≤ 140737488355328) : p.length ≤ 64 → ∀ c ∈ p, c.s.size ≤ 1000000 := by
  intro hl c hc
  have h1 := sizeC_max hs
  have h2 : p.length * 140737488355328 ≤ 64 * 140737488355328 := Nat.mul_le_mul_right _ hl
  have h3 : totS [] = 0 := rfl
  have h4 := grt_no hg (by unfold totC; rw [h3]; omega)
  have h5 := sizeC_le hc
  unfold totC at h4
  omega

set_option maxRecDepth 100000 in
set_option maxHeartbeats 2000000 in
theorem may_walk6 (kv v1 v2 : Value) (ks : List Key) (p q : List Chg) (w : World) (hk : Krow w kv ks) (yk : ∀ k ∈ ks, KeyW k) (hp : Crow w v1 p) (yp : ∀ a ∈ p, ChgW a) (hq : Crow w v2 q)
    (zp : p.length * 56 ≤ 140737488355328 ∧ ∀ c ∈ p, c.s.size ≤ 140737488355328) :
    Calls Try.prog 3 #[kv, v1, v2] w fun e w' => e = .returned (.bool true) ∧ Below w.heap.size w w' := by
  have HK := Lib.hid (fun w => known_h w)
  have hlk := hk.len
  have HB0 := Lib.hid (Below.refl w.heap.size w)
  have hk2 := hk
  obtain ⟨kb, kcap, rfl⟩ := hk2.shape
  by_cases hk64 : 64 < ks.length
  · have d1 : decide ((64 : Int) < (ks.length : Int)) = true := by rw [decide_eq_true_iff]; omega
    clear hk hk2 yk hp yp hq zp hk64
    go_enter Try.func3, Try.ntmps3
    go_wp2_with (go_at_call 10; with_reducible (refine (HK.out _).mono ?_); rintro e w99 ⟨rfl, hb99⟩; have HB99 := Lib.hid (below_add HB0.out hb99 HB0.out.size))
    go_ret
    exact ⟨rfl, HB99.out⟩
  have d1 : decide ((64 : Int) < (ks.length : Int)) = false := by rw [decide_eq_false_iff_not]; omega
  obtain ⟨g1, hg1⟩ : ∃ b, grt p [] = b := ⟨_, rfl⟩
  obtain ⟨g2, hg2⟩ : ∃ b, grt q [] = b := ⟨_, rfl⟩
  have HG1 := Lib.hid (great0_h p g1 hg1)
  have HG2 := Lib.hid (great0_h q g2 hg2)
  have Hk0 := Lib.hid hk
  have Hp0 := Lib.hid hp
  have Hq0 := Lib.hid hq
  clear hk hk2 hp hq hk64 hg2
  by_cases qg1 : g1 = true
  · subst qg1
    go_enter Try.func3, Try.ntmps3
    go_wp2_with (first
      | (go_at_call 9; with_reducible (refine (HG1.out _ _ Hp0.out).mono ?_); rintro e w1 ⟨rfl, hb1⟩; have Hk1 := Lib.hid (Hk0.out.below hb1 (Nat.le_refl _)); have Hp1 := Lib.hid (Hp0.out.below hb1 (Nat.le_refl _)); have Hq1 := Lib.hid (Hq0.out.below hb1 (Nat.le_refl _)); have HB1 := Lib.hid (below_add HB0.out hb1 HB0.out.size))
      | (go_at_call 10; with_reducible (refine (HK.out _).mono ?_); rintro e w99 ⟨rfl, hb99⟩; have HB99 := Lib.hid (below_add HB1.out hb99 HB1.out.size)))
    go_ret
    exact ⟨rfl, HB99.out⟩
  obtain rfl : g1 = false := by revert qg1; cases g1 <;> simp
  clear qg1
  by_cases qg2 : g2 = true
  · subst qg2
    go_enter Try.func3, Try.ntmps3
    go_wp2_with (first
      | (go_at_call 9; with_reducible (refine (HG1.out _ _ Hp0.out).mono ?_); rintro e w1 ⟨rfl, hb1⟩; have Hk1 := Lib.hid (Hk0.out.below hb1 (Nat.le_refl _)); have Hp1 := Lib.hid (Hp0.out.below hb1 (Nat.le_refl _)); have Hq1 := Lib.hid (Hq0.out.below hb1 (Nat.le_refl _)); have HB1 := Lib.hid (below_add HB0.out hb1 HB0.out.size))
      | (go_at_call 9; with_reducible (refine (HG2.out _ _ Hq1.out).mono ?_); rintro e w2 ⟨rfl, hb2⟩; have Hk2 := Lib.hid (Hk1.out.below hb2 (Nat.le_refl _)); have Hp2 := Lib.hid (Hp1.out.below hb2 (Nat.le_refl _)); have Hq2 := Lib.hid (Hq1.out.below hb2 (Nat.le_refl _)); have HB2 := Lib.hid (below_add HB1.out hb2 HB1.out.size))
      | (go_at_call 10; with_reducible (refine (HK.out _).mono ?_); rintro e w99 ⟨rfl, hb99⟩; have HB99 := Lib.hid (below_add HB2.out hb99 HB2.out.size)))
    go_ret
    exact ⟨rfl, HB99.out⟩
  obtain rfl : g2 = false := by revert qg2; cases g2 <;> simp
  clear qg2
  by_cases hm : mayKs ks
  rotate_left
  · have HN := Lib.hid (newno_h ks yk hm)
    have HRK := Lib.hid (rkeysno_h ks hm)
    clear hm yk yp zp hg1
    go_enter Try.func3, Try.ntmps3
    go_wp2_with (first
      | (go_at_call 9; with_reducible (refine (HG1.out _ _ Hp0.out).mono ?_); rintro e w1 ⟨rfl, hb1⟩; have Hk1 := Lib.hid (Hk0.out.below hb1 (Nat.le_refl _)); have Hp1 := Lib.hid (Hp0.out.below hb1 (Nat.le_refl _)); have Hq1 := Lib.hid (Hq0.out.below hb1 (Nat.le_refl _)); have HB1 := Lib.hid (below_add HB0.out hb1 HB0.out.size))
      | (go_at_call 9; with_reducible (refine (HG2.out _ _ Hq1.out).mono ?_); rintro e w2 ⟨rfl, hb2⟩; have Hk2 := Lib.hid (Hk1.out.below hb2 (Nat.le_refl _)); have Hp2 := Lib.hid (Hp1.out.below hb2 (Nat.le_refl _)); have Hq2 := Lib.hid (Hq1.out.below hb2 (Nat.le_refl _)); have HB2 := Lib.hid (below_add HB1.out hb2 HB1.out.size))
      | (go_at_call 11; with_reducible (refine (HN.out _ _ Hk2.out).mono ?_); rintro e w3 ⟨rfl, hb3⟩; have Hk3 := Lib.hid (Hk2.out.below hb3 (Nat.le_refl _)); have Hp3 := Lib.hid (Hp2.out.below hb3 (Nat.le_refl _)); have Hq3 := Lib.hid (Hq2.out.below hb3 (Nat.le_refl _)); have HB3 := Lib.hid (below_add HB2.out hb3 HB2.out.size))
      | (go_at_call 12; with_reducible (refine (HRK.out _ _ Hk3.out).mono ?_); rintro e w4 ⟨rfl, hb4⟩; have Hk4 := Lib.hid (Hk3.out.below hb4 (Nat.le_refl _)); have Hp4 := Lib.hid (Hp3.out.below hb4 (Nat.le_refl _)); have Hq4 := Lib.hid (Hq3.out.below hb4 (Nat.le_refl _)); have HB4 := Lib.hid (below_add HB3.out hb4 HB3.out.size))
      | (go_at_call 10; with_reducible (refine (HK.out _).mono ?_); rintro e w5 ⟨rfl, hb5⟩; have Hk5 := Lib.hid (Hk4.out.below hb5 (Nat.le_refl _)); have Hp5 := Lib.hid (Hp4.out.below hb5 (Nat.le_refl _)); have Hq5 := Lib.hid (Hq4.out.below hb5 (Nat.le_refl _)); have HB5 := Lib.hid (below_add HB4.out hb5 HB4.out.size)))
    go_ret
    exact ⟨rfl, HB5.out⟩
  have HN := Lib.hid (new_h ks yk hm)
  obtain ⟨m, hm6⟩ : ∃ m, may6 ks p = m := ⟨_, rfl⟩
  obtain ⟨s0, hs0⟩ : ∃ s, decide (p = q) = s := ⟨_, rfl⟩
  obtain ⟨r0, hr0⟩ : ∃ s, decide (RiseC p) = s := ⟨_, rfl⟩
  have HC1 := Lib.hid (may6_h ks p m hm6 yp)
  have HC2 := Lib.hid (rmay6_h ks p m hm6 yp (small_of hg1 zp.2))
  have HC3 := Lib.hid (sameC_h p q s0 hs0)
  have HC4 := Lib.hid (rsameC_h p q s0 hs0)
  have HC5 := Lib.hid (copy6_h p zp.1)
  have HC6 := Lib.hid (sameC_h p p true (decide_eq_true rfl))
  have HC7 := Lib.hid (part6_h ks p true yp zp.1)
  have HC8 := Lib.hid (part6_h ks p false yp zp.1)
  have HR := Lib.hid (riseC_h p r0 hr0)
  have HC9 := Lib.hid (rpart6_h ks p true zp.1)
  have HC10 := Lib.hid (rsameC_h (part6 ks true p) (part6 ks true p) true (decide_eq_true rfl))
  have HC11 := Lib.hid (rpart6_h ks p false zp.1)
  have HC12 := Lib.hid (rsameC_h (part6 ks false p) (part6 ks false p) true (decide_eq_true rfl))
  clear hm hm6 hs0 hr0 yk yp zp hg1
  cases r0 with
  | false =>
    clear HC9 HC10 HC11 HC12
    go_enter Try.func3, Try.ntmps3
    go_wp2_with (first
      | (go_at_call 9; with_reducible (refine (HG1.out _ _ Hp0.out).mono ?_); rintro e w1 ⟨rfl, hb1⟩; have Hk1 := Lib.hid (Hk0.out.below hb1 (Nat.le_refl _)); have Hp1 := Lib.hid (Hp0.out.below hb1 (Nat.le_refl _)); have Hq1 := Lib.hid (Hq0.out.below hb1 (Nat.le_refl _)); have HB1 := Lib.hid (below_add HB0.out hb1 HB0.out.size))
      | (go_at_call 9; with_reducible (refine (HG2.out _ _ Hq1.out).mono ?_); rintro e w2 ⟨rfl, hb2⟩; have Hk2 := Lib.hid (Hk1.out.below hb2 (Nat.le_refl _)); have Hp2 := Lib.hid (Hp1.out.below hb2 (Nat.le_refl _)); have Hq2 := Lib.hid (Hq1.out.below hb2 (Nat.le_refl _)); have HB2 := Lib.hid (below_add HB1.out hb2 HB1.out.size))
      | (go_at_call 11; with_reducible (refine (HN.out _ _ Hk2.out).mono ?_); rintro e w3 ⟨s, rfl, Hs3, hb3⟩; have Hk3 := Lib.hid (Hk2.out.below hb3 (Nat.le_refl _)); have Hp3 := Lib.hid (Hp2.out.below hb3 (Nat.le_refl _)); have Hq3 := Lib.hid (Hq2.out.below hb3 (Nat.le_refl _)); have HB3 := Lib.hid (below_add HB2.out hb3 HB2.out.size))
      | (go_at_call 13; with_reducible (refine (HC1.out _ _ _ Hs3.out Hp3.out).mono ?_); rintro e w4 ⟨rfl, hb4⟩; have Hk4 := Lib.hid (Hk3.out.below hb4 (Nat.le_refl _)); have Hp4 := Lib.hid (Hp3.out.below hb4 (Nat.le_refl _)); have Hq4 := Lib.hid (Hq3.out.below hb4 (Nat.le_refl _)); have Hs4 := Lib.hid (Hs3.out.below hb4 (Nat.le_refl _)); have HB4 := Lib.hid (below_add HB3.out hb4 HB3.out.size))
      | (go_at_call 14; with_reducible (refine (HC2.out _ _ _ Hk4.out Hp4.out).mono ?_); rintro e w5 ⟨rfl, hb5⟩; have Hk5 := Lib.hid (Hk4.out.below hb5 (Nat.le_refl _)); have Hp5 := Lib.hid (Hp4.out.below hb5 (Nat.le_refl _)); have Hq5 := Lib.hid (Hq4.out.below hb5 (Nat.le_refl _)); have Hs5 := Lib.hid (Hs4.out.below hb5 (Nat.le_refl _)); have HB5 := Lib.hid (below_add HB4.out hb5 HB4.out.size))
      | (go_at_call 15; with_reducible (refine (HC3.out _ _ _ Hp5.out Hq5.out).mono ?_); rintro e w6 ⟨rfl, hb6⟩; have Hk6 := Lib.hid (Hk5.out.below hb6 (Nat.le_refl _)); have Hp6 := Lib.hid (Hp5.out.below hb6 (Nat.le_refl _)); have Hq6 := Lib.hid (Hq5.out.below hb6 (Nat.le_refl _)); have Hs6 := Lib.hid (Hs5.out.below hb6 (Nat.le_refl _)); have HB6 := Lib.hid (below_add HB5.out hb6 HB5.out.size))
      | (go_at_call 16; with_reducible (refine (HC4.out _ _ _ Hp6.out Hq6.out).mono ?_); rintro e w7 ⟨rfl, hb7⟩; have Hk7 := Lib.hid (Hk6.out.below hb7 (Nat.le_refl _)); have Hp7 := Lib.hid (Hp6.out.below hb7 (Nat.le_refl _)); have Hq7 := Lib.hid (Hq6.out.below hb7 (Nat.le_refl _)); have Hs7 := Lib.hid (Hs6.out.below hb7 (Nat.le_refl _)); have HB7 := Lib.hid (below_add HB6.out hb7 HB6.out.size))
      | (go_at_call 17; with_reducible (refine (HC5.out _ _ Hp7.out).mono ?_); rintro e w8 ⟨u8, rfl, Hc8, hb8⟩; have Hk8 := Lib.hid (Hk7.out.below hb8 (Nat.le_refl _)); have Hp8 := Lib.hid (Hp7.out.below hb8 (Nat.le_refl _)); have Hs8 := Lib.hid (Hs7.out.below hb8 (Nat.le_refl _)); have HB8 := Lib.hid (below_add HB7.out hb8 HB7.out.size))
      | (go_at_call 15; with_reducible (refine (HC6.out _ _ _ Hc8.out Hp8.out).mono ?_); rintro e w9 ⟨rfl, hb9⟩; have Hk9 := Lib.hid (Hk8.out.below hb9 (Nat.le_refl _)); have Hp9 := Lib.hid (Hp8.out.below hb9 (Nat.le_refl _)); have Hs9 := Lib.hid (Hs8.out.below hb9 (Nat.le_refl _)); have Hc9 := Lib.hid (Hc8.out.below hb9 (Nat.le_refl _)); have HB9 := Lib.hid (below_add HB8.out hb9 HB8.out.size))
      | (go_at_call 18; with_reducible (refine (HC7.out _ _ _ Hs9.out Hp9.out).mono ?_); rintro e w10 ⟨u10, rfl, Hx10, hb10⟩; have Hk10 := Lib.hid (Hk9.out.below hb10 (Nat.le_refl _)); have Hp10 := Lib.hid (Hp9.out.below hb10 (Nat.le_refl _)); have Hs10 := Lib.hid (Hs9.out.below hb10 (Nat.le_refl _)); have HB10 := Lib.hid (below_add HB9.out hb10 HB9.out.size))
      | (go_at_call 18; with_reducible (refine (HC8.out _ _ _ Hs10.out Hp10.out).mono ?_); rintro e w11 ⟨u11, rfl, Hy11, hb11⟩; have Hk11 := Lib.hid (Hk10.out.below hb11 (Nat.le_refl _)); have Hp11 := Lib.hid (Hp10.out.below hb11 (Nat.le_refl _)); have Hs11 := Lib.hid (Hs10.out.below hb11 (Nat.le_refl _)); have Hx11 := Lib.hid (Hx10.out.below hb11 (Nat.le_refl _)); have HB11 := Lib.hid (below_add HB10.out hb11 HB10.out.size))
      | (go_at_call 19; with_reducible (refine (HR.out _ _ Hp11.out).mono ?_); rintro e w12 ⟨rfl, hb12⟩; have Hk12 := Lib.hid (Hk11.out.below hb12 (Nat.le_refl _)); have Hp12 := Lib.hid (Hp11.out.below hb12 (Nat.le_refl _)); have Hx12 := Lib.hid (Hx11.out.below hb12 (Nat.le_refl _)); have Hy12 := Lib.hid (Hy11.out.below hb12 (Nat.le_refl _)); have HB12 := Lib.hid (below_add HB11.out hb12 HB11.out.size))
      | (go_at_call 10; with_reducible (refine (HK.out _).mono ?_); rintro e w13 ⟨rfl, hb13⟩; have Hk13 := Lib.hid (Hk12.out.below hb13 (Nat.le_refl _)); have Hp13 := Lib.hid (Hp12.out.below hb13 (Nat.le_refl _)); have Hx13 := Lib.hid (Hx12.out.below hb13 (Nat.le_refl _)); have Hy13 := Lib.hid (Hy12.out.below hb13 (Nat.le_refl _)); have HB13 := Lib.hid (below_add HB12.out hb13 HB12.out.size)))
    go_ret
    exact ⟨rfl, HB13.out⟩
  | true =>
    go_enter Try.func3, Try.ntmps3
    go_wp2_with (first
      | (go_at_call 9; with_reducible (refine (HG1.out _ _ Hp0.out).mono ?_); rintro e w1 ⟨rfl, hb1⟩; have Hk1 := Lib.hid (Hk0.out.below hb1 (Nat.le_refl _)); have Hp1 := Lib.hid (Hp0.out.below hb1 (Nat.le_refl _)); have Hq1 := Lib.hid (Hq0.out.below hb1 (Nat.le_refl _)); have HB1 := Lib.hid (below_add HB0.out hb1 HB0.out.size))
      | (go_at_call 9; with_reducible (refine (HG2.out _ _ Hq1.out).mono ?_); rintro e w2 ⟨rfl, hb2⟩; have Hk2 := Lib.hid (Hk1.out.below hb2 (Nat.le_refl _)); have Hp2 := Lib.hid (Hp1.out.below hb2 (Nat.le_refl _)); have Hq2 := Lib.hid (Hq1.out.below hb2 (Nat.le_refl _)); have HB2 := Lib.hid (below_add HB1.out hb2 HB1.out.size))
      | (go_at_call 11; with_reducible (refine (HN.out _ _ Hk2.out).mono ?_); rintro e w3 ⟨s, rfl, Hs3, hb3⟩; have Hk3 := Lib.hid (Hk2.out.below hb3 (Nat.le_refl _)); have Hp3 := Lib.hid (Hp2.out.below hb3 (Nat.le_refl _)); have Hq3 := Lib.hid (Hq2.out.below hb3 (Nat.le_refl _)); have HB3 := Lib.hid (below_add HB2.out hb3 HB2.out.size))
      | (go_at_call 13; with_reducible (refine (HC1.out _ _ _ Hs3.out Hp3.out).mono ?_); rintro e w4 ⟨rfl, hb4⟩; have Hk4 := Lib.hid (Hk3.out.below hb4 (Nat.le_refl _)); have Hp4 := Lib.hid (Hp3.out.below hb4 (Nat.le_refl _)); have Hq4 := Lib.hid (Hq3.out.below hb4 (Nat.le_refl _)); have Hs4 := Lib.hid (Hs3.out.below hb4 (Nat.le_refl _)); have HB4 := Lib.hid (below_add HB3.out hb4 HB3.out.size))
      | (go_at_call 14; with_reducible (refine (HC2.out _ _ _ Hk4.out Hp4.out).mono ?_); rintro e w5 ⟨rfl, hb5⟩; have Hk5 := Lib.hid (Hk4.out.below hb5 (Nat.le_refl _)); have Hp5 := Lib.hid (Hp4.out.below hb5 (Nat.le_refl _)); have Hq5 := Lib.hid (Hq4.out.below hb5 (Nat.le_refl _)); have Hs5 := Lib.hid (Hs4.out.below hb5 (Nat.le_refl _)); have HB5 := Lib.hid (below_add HB4.out hb5 HB4.out.size))
      | (go_at_call 15; with_reducible (refine (HC3.out _ _ _ Hp5.out Hq5.out).mono ?_); rintro e w6 ⟨rfl, hb6⟩; have Hk6 := Lib.hid (Hk5.out.below hb6 (Nat.le_refl _)); have Hp6 := Lib.hid (Hp5.out.below hb6 (Nat.le_refl _)); have Hq6 := Lib.hid (Hq5.out.below hb6 (Nat.le_refl _)); have Hs6 := Lib.hid (Hs5.out.below hb6 (Nat.le_refl _)); have HB6 := Lib.hid (below_add HB5.out hb6 HB5.out.size))
      | (go_at_call 16; with_reducible (refine (HC4.out _ _ _ Hp6.out Hq6.out).mono ?_); rintro e w7 ⟨rfl, hb7⟩; have Hk7 := Lib.hid (Hk6.out.below hb7 (Nat.le_refl _)); have Hp7 := Lib.hid (Hp6.out.below hb7 (Nat.le_refl _)); have Hq7 := Lib.hid (Hq6.out.below hb7 (Nat.le_refl _)); have Hs7 := Lib.hid (Hs6.out.below hb7 (Nat.le_refl _)); have HB7 := Lib.hid (below_add HB6.out hb7 HB6.out.size))
      | (go_at_call 17; with_reducible (refine (HC5.out _ _ Hp7.out).mono ?_); rintro e w8 ⟨u8, rfl, Hc8, hb8⟩; have Hk8 := Lib.hid (Hk7.out.below hb8 (Nat.le_refl _)); have Hp8 := Lib.hid (Hp7.out.below hb8 (Nat.le_refl _)); have Hs8 := Lib.hid (Hs7.out.below hb8 (Nat.le_refl _)); have HB8 := Lib.hid (below_add HB7.out hb8 HB7.out.size))
      | (go_at_call 15; with_reducible (refine (HC6.out _ _ _ Hc8.out Hp8.out).mono ?_); rintro e w9 ⟨rfl, hb9⟩; have Hk9 := Lib.hid (Hk8.out.below hb9 (Nat.le_refl _)); have Hp9 := Lib.hid (Hp8.out.below hb9 (Nat.le_refl _)); have Hs9 := Lib.hid (Hs8.out.below hb9 (Nat.le_refl _)); have Hc9 := Lib.hid (Hc8.out.below hb9 (Nat.le_refl _)); have HB9 := Lib.hid (below_add HB8.out hb9 HB8.out.size))
      | (go_at_call 18; with_reducible (refine (HC7.out _ _ _ Hs9.out Hp9.out).mono ?_); rintro e w10 ⟨u10, rfl, Hx10, hb10⟩; have Hk10 := Lib.hid (Hk9.out.below hb10 (Nat.le_refl _)); have Hp10 := Lib.hid (Hp9.out.below hb10 (Nat.le_refl _)); have Hs10 := Lib.hid (Hs9.out.below hb10 (Nat.le_refl _)); have HB10 := Lib.hid (below_add HB9.out hb10 HB9.out.size))
      | (go_at_call 18; with_reducible (refine (HC8.out _ _ _ Hs10.out Hp10.out).mono ?_); rintro e w11 ⟨u11, rfl, Hy11, hb11⟩; have Hk11 := Lib.hid (Hk10.out.below hb11 (Nat.le_refl _)); have Hp11 := Lib.hid (Hp10.out.below hb11 (Nat.le_refl _)); have Hs11 := Lib.hid (Hs10.out.below hb11 (Nat.le_refl _)); have Hx11 := Lib.hid (Hx10.out.below hb11 (Nat.le_refl _)); have HB11 := Lib.hid (below_add HB10.out hb11 HB10.out.size))
      | (go_at_call 19; with_reducible (refine (HR.out _ _ Hp11.out).mono ?_); rintro e w12 ⟨rfl, hb12⟩; have Hk12 := Lib.hid (Hk11.out.below hb12 (Nat.le_refl _)); have Hp12 := Lib.hid (Hp11.out.below hb12 (Nat.le_refl _)); have Hx12 := Lib.hid (Hx11.out.below hb12 (Nat.le_refl _)); have Hy12 := Lib.hid (Hy11.out.below hb12 (Nat.le_refl _)); have HB12 := Lib.hid (below_add HB11.out hb12 HB11.out.size))
      | (go_at_call 20; with_reducible (refine (HC9.out _ _ _ Hk12.out Hp12.out).mono ?_); rintro e w13 ⟨u13, rfl, Hz13, hb13⟩; have Hk13 := Lib.hid (Hk12.out.below hb13 (Nat.le_refl _)); have Hp13 := Lib.hid (Hp12.out.below hb13 (Nat.le_refl _)); have Hx13 := Lib.hid (Hx12.out.below hb13 (Nat.le_refl _)); have Hy13 := Lib.hid (Hy12.out.below hb13 (Nat.le_refl _)); have HB13 := Lib.hid (below_add HB12.out hb13 HB12.out.size))
      | (go_at_call 16; with_reducible (refine (HC10.out _ _ _ Hx13.out Hz13.out).mono ?_); rintro e w14 ⟨rfl, hb14⟩; have Hk14 := Lib.hid (Hk13.out.below hb14 (Nat.le_refl _)); have Hp14 := Lib.hid (Hp13.out.below hb14 (Nat.le_refl _)); have Hx14 := Lib.hid (Hx13.out.below hb14 (Nat.le_refl _)); have Hy14 := Lib.hid (Hy13.out.below hb14 (Nat.le_refl _)); have Hz14 := Lib.hid (Hz13.out.below hb14 (Nat.le_refl _)); have HB14 := Lib.hid (below_add HB13.out hb14 HB13.out.size))
      | (go_at_call 20; with_reducible (refine (HC11.out _ _ _ Hk14.out Hp14.out).mono ?_); rintro e w15 ⟨u15, rfl, Ht15, hb15⟩; have Hk15 := Lib.hid (Hk14.out.below hb15 (Nat.le_refl _)); have Hp15 := Lib.hid (Hp14.out.below hb15 (Nat.le_refl _)); have Hy15 := Lib.hid (Hy14.out.below hb15 (Nat.le_refl _)); have HB15 := Lib.hid (below_add HB14.out hb15 HB14.out.size))
      | (go_at_call 16; with_reducible (refine (HC12.out _ _ _ Hy15.out Ht15.out).mono ?_); rintro e w16 ⟨rfl, hb16⟩; have Hk16 := Lib.hid (Hk15.out.below hb16 (Nat.le_refl _)); have Hp16 := Lib.hid (Hp15.out.below hb16 (Nat.le_refl _)); have Hy16 := Lib.hid (Hy15.out.below hb16 (Nat.le_refl _)); have Ht16 := Lib.hid (Ht15.out.below hb16 (Nat.le_refl _)); have HB16 := Lib.hid (below_add HB15.out hb16 HB15.out.size))
      | (go_at_call 10; with_reducible (refine (HK.out _).mono ?_); rintro e w17 ⟨rfl, hb17⟩; have Hk17 := Lib.hid (Hk16.out.below hb17 (Nat.le_refl _)); have Hp17 := Lib.hid (Hp16.out.below hb17 (Nat.le_refl _)); have Hy17 := Lib.hid (Hy16.out.below hb17 (Nat.le_refl _)); have Ht17 := Lib.hid (Ht16.out.below hb17 (Nat.le_refl _)); have HB17 := Lib.hid (below_add HB16.out hb17 HB16.out.size)))
    go_ret
    exact ⟨rfl, HB17.out⟩
end Go.Proofs.Ytkejebjppnhidaa
