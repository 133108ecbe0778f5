
import Derived.Test.YtoiomijchchlnaaF8
/- F9: Fits -/
namespace Go.Proofs.Ytoiomijchchlnaa
open Go.RowKit
set_option linter.unusedVariables false

theorem keeps_bounds {ks : List Key} {ls : List Opn} {n : Int} (hm : mayX ks ls = 0) (hn : n ≤ 9223372036854775807) (ht : sumK 3 ls ≤ n) (k : Nat) : 0 ≤ n - tk (ls.take k) ∧ n - tk (ls.take k) ≤ 9223372036854775807 := by
  obtain ⟨h1, h2, h3⟩ := mayX_0.1 hm
  have := tk_within h3 k
  rw [sumK_tot] at ht
  omega

set_option maxRecDepth 100000 in
set_option maxHeartbeats 4000000 in
theorem fits_any15 (v u : Value) (n most : Int) (ks : List Key) (ls : List Opn) (w : World) (hs : Sch w v ks) (hv : Orow w u ls) (hW : ∀ p ∈ ls, OpW p) (hn : n ≤ 9223372036854775807) (hm : most ≤ 9223372036854775807) :
    Calls Try.prog 9 #[v, u, .int .i64 n, .int .i64 most] w fun e w' => e = .returned (.int .i64 (fitsX ks ls n most)) ∧ Below w.heap.size w w' := by
  have HTK := Lib.hid (fun W (hb : Below w.heap.size w W) => takes_any u ls W (hv.below hb))
  have HMK := Lib.hid (fun W (hb : Below w.heap.size w W) => makes_any u ls W (hv.below hb))
  have HMY := Lib.hid (fun W (hb : Below w.heap.size w W) => may_anyX v u ks ls W (hs.below hb (Nat.le_refl _)) (hv.below hb) hW)
  have HPL := Lib.hid (fun W (hb : Below w.heap.size w W) => inPlace_anyX v u ks ls W (hs.below hb (Nat.le_refl _)) (hv.below hb) hW)
  have HKP := Lib.hid (fun W (hb : Below w.heap.size w W) (h0 : mayX ks ls = 0) (ht : sumK 3 ls ≤ n) => keeps_any u n ls W (hv.below hb) (keeps_bounds h0 hn ht))
  have HB0 := Lib.hid (Below.refl w.heap.size w)
  have ht0 := (sumK_rng 3 ls).1
  have ht2 := (sumK_rng 2 ls).1
  unfold fitsX
  clear hs hv hW
  generalize mayX ks ls = e0 at *
  generalize sumK 3 ls = t3 at *
  generalize sumK 2 ls = t2 at *
  generalize placeX ks ls = pl at *
  by_cases hp : keeps n ls
  · rw [decide_eq_true hp] at HKP
    rw [if_neg (c := ¬ keeps n ls) (by simpa using hp)]
    by_cases h0 : e0 = 0
    rotate_left
    · rw [if_pos h0]
      have en : (e0 != 0) = true := by simpa using h0
      clear h0 HKP
      go_enter Try.func9, Try.ntmps9
      go_wp2_with (first
        | (go_at_call 12; (with_reducible refine (HMY.out _ HB0.out).mono ?_); rintro e w1 ⟨rfl, hb⟩; have HB1 := Lib.hid (below_add HB0.out hb HB0.out.size); clear hb))
      go_ret
      exact ⟨rfl, HB1.out⟩
    subst h0
    rw [if_neg (by omega)]
    by_cases h1 : n < 1
    · rw [if_pos (.inl h1)]
      have dh1 : decide (n < 1) = true := decide_eq_true h1
      clear HKP hp
      go_enter Try.func9, Try.ntmps9
      go_wp2_with (first
        | (go_at_call 12; (with_reducible refine (HMY.out _ HB0.out).mono ?_); rintro e w1 ⟨rfl, hb⟩; have HB1 := Lib.hid (below_add HB0.out hb HB0.out.size); clear hb)
        | (go_at_call 10; (with_reducible refine (HTK.out _ HB1.out).mono ?_); rintro e w2 ⟨rfl, hb⟩; have HB2 := Lib.hid (below_add HB1.out hb HB1.out.size); clear hb))
      go_ret
      exact ⟨rfl, HB2.out⟩
    have dh1 : decide (n < 1) = false := decide_eq_false h1
    by_cases h2 : most < n
    · rw [if_pos (.inr (.inl h2))]
      have dh2 : decide (most < n) = true := decide_eq_true h2
      clear HKP hp
      go_enter Try.func9, Try.ntmps9
      go_wp2_with (first
        | (go_at_call 12; (with_reducible refine (HMY.out _ HB0.out).mono ?_); rintro e w1 ⟨rfl, hb⟩; have HB1 := Lib.hid (below_add HB0.out hb HB0.out.size); clear hb)
        | (go_at_call 10; (with_reducible refine (HTK.out _ HB1.out).mono ?_); rintro e w2 ⟨rfl, hb⟩; have HB2 := Lib.hid (below_add HB1.out hb HB1.out.size); clear hb))
      go_ret
      exact ⟨rfl, HB2.out⟩
    have dh2 : decide (most < n) = false := decide_eq_false h2
    by_cases h3 : n < t3
    · rw [if_pos (.inr (.inr h3))]
      have dh3 : decide (n < t3) = true := decide_eq_true h3
      clear HKP hp
      go_enter Try.func9, Try.ntmps9
      go_wp2_with (first
        | (go_at_call 12; (with_reducible refine (HMY.out _ HB0.out).mono ?_); rintro e w1 ⟨rfl, hb⟩; have HB1 := Lib.hid (below_add HB0.out hb HB0.out.size); clear hb)
        | (go_at_call 10; (with_reducible refine (HTK.out _ HB1.out).mono ?_); rintro e w2 ⟨rfl, hb⟩; have HB2 := Lib.hid (below_add HB1.out hb HB1.out.size); clear hb))
      go_ret
      exact ⟨rfl, HB2.out⟩
    have dh3 : decide (n < t3) = false := decide_eq_false h3
    rw [if_neg (by omega)]
    have h3 : t3 ≤ n := by omega
    have HK := Lib.hid (fun W hb => HKP.out W hb rfl h3)
    clear HKP hp
    cases pl
    · rw [if_pos rfl]
      go_enter Try.func9, Try.ntmps9
      go_wp2_with (first
        | (go_at_call 12; (with_reducible refine (HMY.out _ HB0.out).mono ?_); rintro e w1 ⟨rfl, hb⟩; have HB1 := Lib.hid (below_add HB0.out hb HB0.out.size); clear hb)
        | (go_at_call 10; (with_reducible refine (HTK.out _ HB1.out).mono ?_); rintro e w2 ⟨rfl, hb⟩; have HB2 := Lib.hid (below_add HB1.out hb HB1.out.size); clear hb)
        | (go_at_call 16; (with_reducible refine (HK.out _ HB2.out).mono ?_); rintro e w3 ⟨rfl, hb⟩; have HB3 := Lib.hid (below_add HB2.out hb HB2.out.size); clear hb)
        | (go_at_call 13; (with_reducible refine (HPL.out _ HB3.out).mono ?_); rintro e w4 ⟨rfl, hb⟩; have HB4 := Lib.hid (below_add HB3.out hb HB3.out.size); clear hb))
      go_ret
      exact ⟨rfl, HB4.out⟩
    rw [if_neg (by simp)]
    have hw1 : IntKind.i64.wrap (n - t3) = n - t3 := by rw [IntKind.wrap_i64]; omega
    have hw2 : IntKind.i64.wrap (most - (n - t3)) = most - (n - t3) := by rw [IntKind.wrap_i64]; omega
    by_cases h4 : most - (n - t3) < t2
    · rw [if_pos h4]
      have d4 : decide (most - (n - t3) < t2) = true := decide_eq_true h4
      go_enter Try.func9, Try.ntmps9
      go_wp2_with (first
        | (go_at_call 12; (with_reducible refine (HMY.out _ HB0.out).mono ?_); rintro e w1 ⟨rfl, hb⟩; have HB1 := Lib.hid (below_add HB0.out hb HB0.out.size); clear hb)
        | (go_at_call 10; (with_reducible refine (HTK.out _ HB1.out).mono ?_); rintro e w2 ⟨rfl, hb⟩; have HB2 := Lib.hid (below_add HB1.out hb HB1.out.size); clear hb)
        | (go_at_call 16; (with_reducible refine (HK.out _ HB2.out).mono ?_); rintro e w3 ⟨rfl, hb⟩; have HB3 := Lib.hid (below_add HB2.out hb HB2.out.size); clear hb)
        | (go_at_call 13; (with_reducible refine (HPL.out _ HB3.out).mono ?_); rintro e w4 ⟨rfl, hb⟩; have HB4 := Lib.hid (below_add HB3.out hb HB3.out.size); clear hb)
        | (go_at_call 11; (with_reducible refine (HMK.out _ HB4.out).mono ?_); rintro e w5 ⟨rfl, hb⟩; have HB5 := Lib.hid (below_add HB4.out hb HB4.out.size); clear hb))
      go_ret
      exact ⟨rfl, HB5.out⟩
    rw [if_neg h4]
    have d4 : decide (most - (n - t3) < t2) = false := decide_eq_false h4
    go_enter Try.func9, Try.ntmps9
    go_wp2_with (first
      | (go_at_call 12; (with_reducible refine (HMY.out _ HB0.out).mono ?_); rintro e w1 ⟨rfl, hb⟩; have HB1 := Lib.hid (below_add HB0.out hb HB0.out.size); clear hb)
      | (go_at_call 10; (with_reducible refine (HTK.out _ HB1.out).mono ?_); rintro e w2 ⟨rfl, hb⟩; have HB2 := Lib.hid (below_add HB1.out hb HB1.out.size); clear hb)
      | (go_at_call 16; (with_reducible refine (HK.out _ HB2.out).mono ?_); rintro e w3 ⟨rfl, hb⟩; have HB3 := Lib.hid (below_add HB2.out hb HB2.out.size); clear hb)
      | (go_at_call 13; (with_reducible refine (HPL.out _ HB3.out).mono ?_); rintro e w4 ⟨rfl, hb⟩; have HB4 := Lib.hid (below_add HB3.out hb HB3.out.size); clear hb)
      | (go_at_call 11; (with_reducible refine (HMK.out _ HB4.out).mono ?_); rintro e w5 ⟨rfl, hb⟩; have HB5 := Lib.hid (below_add HB4.out hb HB4.out.size); clear hb))
    go_ret
    exact ⟨rfl, HB5.out⟩
  · rw [decide_eq_false hp] at HKP
    rw [if_pos (c := ¬ keeps n ls) hp]
    by_cases h0 : e0 = 0
    rotate_left
    · rw [if_pos h0]
      have en : (e0 != 0) = true := by simpa using h0
      clear h0 HKP
      go_enter Try.func9, Try.ntmps9
      go_wp2_with (first
        | (go_at_call 12; (with_reducible refine (HMY.out _ HB0.out).mono ?_); rintro e w1 ⟨rfl, hb⟩; have HB1 := Lib.hid (below_add HB0.out hb HB0.out.size); clear hb))
      go_ret
      exact ⟨rfl, HB1.out⟩
    subst h0
    rw [if_neg (by omega)]
    by_cases h1 : n < 1
    · rw [if_pos (.inl h1)]
      have dh1 : decide (n < 1) = true := decide_eq_true h1
      clear HKP hp
      go_enter Try.func9, Try.ntmps9
      go_wp2_with (first
        | (go_at_call 12; (with_reducible refine (HMY.out _ HB0.out).mono ?_); rintro e w1 ⟨rfl, hb⟩; have HB1 := Lib.hid (below_add HB0.out hb HB0.out.size); clear hb)
        | (go_at_call 10; (with_reducible refine (HTK.out _ HB1.out).mono ?_); rintro e w2 ⟨rfl, hb⟩; have HB2 := Lib.hid (below_add HB1.out hb HB1.out.size); clear hb))
      go_ret
      exact ⟨rfl, HB2.out⟩
    have dh1 : decide (n < 1) = false := decide_eq_false h1
    by_cases h2 : most < n
    · rw [if_pos (.inr (.inl h2))]
      have dh2 : decide (most < n) = true := decide_eq_true h2
      clear HKP hp
      go_enter Try.func9, Try.ntmps9
      go_wp2_with (first
        | (go_at_call 12; (with_reducible refine (HMY.out _ HB0.out).mono ?_); rintro e w1 ⟨rfl, hb⟩; have HB1 := Lib.hid (below_add HB0.out hb HB0.out.size); clear hb)
        | (go_at_call 10; (with_reducible refine (HTK.out _ HB1.out).mono ?_); rintro e w2 ⟨rfl, hb⟩; have HB2 := Lib.hid (below_add HB1.out hb HB1.out.size); clear hb))
      go_ret
      exact ⟨rfl, HB2.out⟩
    have dh2 : decide (most < n) = false := decide_eq_false h2
    by_cases h3 : n < t3
    · rw [if_pos (.inr (.inr h3))]
      have dh3 : decide (n < t3) = true := decide_eq_true h3
      clear HKP hp
      go_enter Try.func9, Try.ntmps9
      go_wp2_with (first
        | (go_at_call 12; (with_reducible refine (HMY.out _ HB0.out).mono ?_); rintro e w1 ⟨rfl, hb⟩; have HB1 := Lib.hid (below_add HB0.out hb HB0.out.size); clear hb)
        | (go_at_call 10; (with_reducible refine (HTK.out _ HB1.out).mono ?_); rintro e w2 ⟨rfl, hb⟩; have HB2 := Lib.hid (below_add HB1.out hb HB1.out.size); clear hb))
      go_ret
      exact ⟨rfl, HB2.out⟩
    have dh3 : decide (n < t3) = false := decide_eq_false h3
    rw [if_neg (by omega)]
    have h3 : t3 ≤ n := by omega
    have HK := Lib.hid (fun W hb => HKP.out W hb rfl h3)
    clear HKP hp
    go_enter Try.func9, Try.ntmps9
    go_wp2_with (first
      | (go_at_call 12; (with_reducible refine (HMY.out _ HB0.out).mono ?_); rintro e w1 ⟨rfl, hb⟩; have HB1 := Lib.hid (below_add HB0.out hb HB0.out.size); clear hb)
      | (go_at_call 10; (with_reducible refine (HTK.out _ HB1.out).mono ?_); rintro e w2 ⟨rfl, hb⟩; have HB2 := Lib.hid (below_add HB1.out hb HB1.out.size); clear hb)
      | (go_at_call 16; (with_reducible refine (HK.out _ HB2.out).mono ?_); rintro e w3 ⟨rfl, hb⟩; have HB3 := Lib.hid (below_add HB2.out hb HB2.out.size); clear hb))
    go_ret
    exact ⟨rfl, HB3.out⟩
end Go.Proofs.Ytoiomijchchlnaa
