
import Derived.Test.YtgckofoaiojocaaY8
namespace Go.Proofs.Ytgckofoaiojocaa
open Go.RowKit
set_option linter.unusedVariables false

theorem val_neq (k n f k' n' f' : Int) (s s' : ByteArray) (w : World) :
    (binOp .neq 24 (val k n f s) (val k' n' f' s')).run Try.prog w = .ok (.bool !((k == k') && (n == n') && (f == f') && (s.toList == s'.toList))) w := by
  have h := val_eql k n f k' n' f' s s' w
  rw [run_eql_struct] at h
  rw [run_neq_struct]
  cases hx : (Op.equalIn 10000 24 (val k n f s) (val k' n' f' s')).run Try.prog w with
  | ok b w1 =>
    rw [hx] at h
    simp only [Result.andThen_ok, Result.ok.injEq, Value.bool.injEq] at h
    obtain ⟨h1, h2⟩ := h
    subst h2
    simp only [Result.andThen_ok, h1]
  | halt x w1 => rw [hx] at h; simp [Result.andThen] at h

theorem copysign_any (w : World) :
    Calls Try.prog 21 #[.float .f64 0, .float .f64 13830554455654793216] w fun e w' => e = .returned (.float .f64 9223372036854775808) ∧ w = w' := by
  have h1 := bits_of 0
  have h2 := bits_of 13830554455654793216
  have h3 := of_bits 9223372036854775808
  have b1 : bits .andNot .u64 0 9223372036854775808 = 0 := by decide
  have b2 : bits .and .u64 13830554455654793216 9223372036854775808 = 9223372036854775808 := by decide
  have b3 : bits .or .u64 0 9223372036854775808 = 9223372036854775808 := by decide
  go_enter Try.func21, Try.ntmps21
  go_wp2
  go_ret
  exact ⟨rfl, rfl⟩

theorem nan_any (w : World) :
    Calls Try.prog 22 #[] w fun e w' => e = .returned (.float .f64 9221120237041090561) ∧ w = w' := by
  have h3 := of_bits 9221120237041090561
  go_enter Try.func22, Try.ntmps22
  go_wp2
  go_ret
  exact ⟨rfl, rfl⟩

theorem k_canon1 : canonI 9223372036854775808 = 9223372036854775808 := by decide
theorem k_canon2 : canonI 0 = 0 := by decide
theorem k_canon3 : canonI 9221120237041090561 = 9221120237041090560 := by decide
theorem k_canon4 : canonI 9221120237041090560 = 9221120237041090560 := by decide
theorem k_may1 : vmay 3 0 9223372036854775808 ⟨#[]⟩ = true := by unfold vmay; rw [decide_eq_true_iff]; exact .inr (.inr (.inl ⟨rfl, rfl, k_canon1, rfl⟩))
theorem k_may2 : vmay 3 0 0 ⟨#[]⟩ = true := by unfold vmay; rw [decide_eq_true_iff]; exact .inr (.inr (.inl ⟨rfl, rfl, k_canon2, rfl⟩))
theorem k_may3 : vmay 3 0 9221120237041090560 ⟨#[]⟩ = true := by unfold vmay; rw [decide_eq_true_iff]; exact .inr (.inr (.inl ⟨rfl, rfl, k_canon4, rfl⟩))
theorem k_may4 : vmay 3 0 9221120237041090561 ⟨#[]⟩ = false := by
  have h : (!nanI 9221120237041090561 || (9221120237041090561 : Int) == 9221120237041090560) = false := by decide
  rw [rvmay3, h, Bool.and_false]
theorem k_may5 : vmay 2 3 0 ⟨#[]⟩ = true := by unfold vmay; rw [decide_eq_true_iff]; exact .inr (.inl ⟨rfl, rfl, rfl⟩)
theorem k_less1 : vless 3 0 9223372036854775808 ⟨#[]⟩ 3 0 0 ⟨#[]⟩ = true := by unfold vless; rw [k_may1, k_may2]; decide
theorem k_less2 : vless 3 0 0 ⟨#[]⟩ 3 0 9223372036854775808 ⟨#[]⟩ = false := by unfold vless; rw [k_may1, k_may2]; decide
theorem k_numF : numF 2 3 0 ⟨#[]⟩ = 4613937818241073152 := by unfold numF; rw [k_may5]; decide
theorem k_numOk : numOk 2 3 0 ⟨#[]⟩ = true := by unfold numOk; rw [k_may5]; decide
theorem k_three : (FloatKind.f64.format.order 4613937818241073152 4613937818241073152 == some .eq) = true := by rw [nan_eq]; decide

theorem known_one (w : World) : Calls Try.prog 16 #[.float .f64 9223372036854775808] w fun e w' => e = .returned (val 3 0 9223372036854775808 ⟨#[]⟩) ∧ Below w.heap.size w w' :=
  (float_any 9223372036854775808 w (by decide)).mono fun e w' ⟨h, hb⟩ => ⟨h.trans (ret_val3 k_canon1), hb⟩
theorem known_two (w : World) : Calls Try.prog 16 #[.float .f64 0] w fun e w' => e = .returned (val 3 0 0 ⟨#[]⟩) ∧ Below w.heap.size w w' :=
  (float_any 0 w (by decide)).mono fun e w' ⟨h, hb⟩ => ⟨h.trans (ret_val3 k_canon2), hb⟩
theorem known_three (w : World) : Calls Try.prog 16 #[.float .f64 9221120237041090561] w fun e w' => e = .returned (val 3 0 9221120237041090560 ⟨#[]⟩) ∧ Below w.heap.size w w' :=
  (float_any 9221120237041090561 w (by decide)).mono fun e w' ⟨h, hb⟩ => ⟨h.trans (ret_val3 k_canon3), hb⟩
theorem known_less1 (w : World) : Calls Try.prog 19 #[val 3 0 9223372036854775808 ⟨#[]⟩, val 3 0 0 ⟨#[]⟩] w fun e w' => e = .returned (.bool true) ∧ Below w.heap.size w w' :=
  (less_any 3 0 9223372036854775808 ⟨#[]⟩ 3 0 0 ⟨#[]⟩ w (by decide) (by decide) (by decide) (by decide)).mono fun e w' ⟨h, hb⟩ => ⟨h.trans (ret_bool k_less1), hb⟩
theorem known_less2 (w : World) : Calls Try.prog 19 #[val 3 0 0 ⟨#[]⟩, val 3 0 9223372036854775808 ⟨#[]⟩] w fun e w' => e = .returned (.bool false) ∧ Below w.heap.size w w' :=
  (less_any 3 0 0 ⟨#[]⟩ 3 0 9223372036854775808 ⟨#[]⟩ w (by decide) (by decide) (by decide) (by decide)).mono fun e w' ⟨h, hb⟩ => ⟨h.trans (ret_bool k_less2), hb⟩
theorem known_may1 (w : World) : Calls Try.prog 13 #[val 3 0 9221120237041090561 ⟨#[]⟩] w fun e w' => e = .returned (.bool false) ∧ Below w.heap.size w w' :=
  (vmay_any 3 0 9221120237041090561 ⟨#[]⟩ w (by decide) (by decide)).mono fun e w' ⟨h, hb⟩ => ⟨h.trans (ret_bool k_may4), hb⟩
theorem known_may2 (w : World) : Calls Try.prog 13 #[val 3 0 9221120237041090560 ⟨#[]⟩] w fun e w' => e = .returned (.bool true) ∧ Below w.heap.size w w' :=
  (vmay_any 3 0 9221120237041090560 ⟨#[]⟩ w (by decide) (by decide)).mono fun e w' ⟨h, hb⟩ => ⟨h.trans (ret_bool k_may3), hb⟩
theorem known_num (w : World) : Calls Try.prog 10 #[val 2 3 0 ⟨#[]⟩] w fun e w' => e = .returned (.tuple #[.float .f64 4613937818241073152, .bool true]) ∧ Below w.heap.size w w' :=
  (number_any 2 3 0 ⟨#[]⟩ w (by decide) (by decide)).mono fun e w' ⟨h, hb⟩ => ⟨h.trans (by rw [k_numF, k_numOk]), hb⟩

theorem known_any (w : World) :
    Calls Try.prog 7 #[] w fun e w' => e = .returned (.bool true) ∧ Below w.heap.size w w' := by
  have hq := fun k n f k' n' f' s s' w => val_neq k n f k' n' f' s s' w
  have h3 := k_three
  go_enter Try.func7, Try.ntmps7
  go_wp2_with (first
    | (go_at_call 21; refine (copysign_any _).mono ?_; rintro e w' ⟨rfl, rfl⟩)
    | (go_at_call 16; ((with_reducible refine (known_one _).mono ?_); rintro e w1 ⟨rfl, hb1⟩))
    | (go_at_call 16; ((with_reducible refine (known_two _).mono ?_); rintro e w2 ⟨rfl, hb2⟩))
    | (go_at_call 15; ((with_reducible refine (int_any _ _).mono ?_); rintro e w3 ⟨rfl, hb3⟩; obtain ⟨a1, c1⟩ := at_two 3 0 9223372036854775808 ⟨#[]⟩ 3 0 0 ⟨#[]⟩ w2 24; have a3 := a1.below hb3; have c3 := c1.below hb3; have hE := ((hb1.trans (hb2.mono hb1.size)).trans ((below_two w2 _ _).mono (by have := hb1.size; have := hb2.size; omega))).trans (hb3.mono (by have := hb1.size; have := hb2.size; simp; omega)); clear hb1 hb2 hb3 a1 c1))
    | (go_at_call 10; ((with_reducible refine (known_num _).mono ?_); rintro e w4 ⟨rfl, hb4⟩; have a4 := a3.below hb4; have c4 := c3.below hb4; have hE4 := below_add hE hb4 hE.size; clear hb4 hE a3 c3))
    | (go_at_call 19; ((with_reducible refine (known_less1 _).mono ?_); rintro e w5 ⟨rfl, hb5⟩; have a5 := a4.below hb5; have c5 := c4.below hb5; have hE5 := below_add hE4 hb5 hE4.size; clear hb5 hE4 a4 c4))
    | (go_at_call 19; ((with_reducible refine (known_less2 _).mono ?_); rintro e w6 ⟨rfl, hb6⟩; have hE6 := below_add hE5 hb6 hE5.size; clear hb6 hE5 a5 c5))
    | (go_at_call 13; ((with_reducible refine (known_may1 _).mono ?_); rintro e w7 ⟨rfl, hb7⟩; have hE7 := below_add hE6 hb7 hE6.size; clear hb7 hE6))
    | (go_at_call 22; refine (nan_any _).mono ?_; rintro e w' ⟨rfl, rfl⟩)
    | (go_at_call 16; ((with_reducible refine (known_three _).mono ?_); rintro e w8 ⟨rfl, hb8⟩; have hE8 := below_add hE7 hb8 hE7.size; clear hb8 hE7))
    | (go_at_call 13; ((with_reducible refine (known_may2 _).mono ?_); rintro e w9 ⟨rfl, hb9⟩; have hE9 := below_add hE8 hb9 hE8.size; clear hb9 hE8)))
  go_ret
  exact ⟨rfl, hE9⟩
end Go.Proofs.Ytgckofoaiojocaa
