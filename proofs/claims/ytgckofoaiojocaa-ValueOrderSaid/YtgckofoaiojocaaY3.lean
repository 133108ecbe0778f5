
import Derived.Test.YtgckofoaiojocaaY2
import Derived.Test.YtgckofoaiojocaaYM2
namespace Go.Proofs.Ytgckofoaiojocaa
open Go.RowKit
set_option linter.unusedVariables false

theorem ret_u64 {a b : Int} (h : a = b) : Ending.returned (.int .u64 a) = .returned (.int .u64 b) := by rw [h]

theorem rank_any (f : Int) (w : World) (h0 : 0 ≤ f) (h1 : f < 18446744073709551616) :
    Calls Try.prog 29 #[.int .u64 f] w fun e w' => e = .returned (.int .u64 (rankI f)) ∧ w = w' := by
  have h2 := u64_not f h0 h1
  have hb := u64_sign f h0 h1
  by_cases hs : 9223372036854775808 ≤ f
  · have hb' : (bits .and .u64 f 9223372036854775808 != 0) = true := by rw [hb]; simp; omega
    have hr : rankI f = 18446744073709551615 - f := by unfold rankI; rw [if_pos hs]
    rw [hr]
    have H2 := Lib.hid h2
    clear h2 hb hr
    go_enter Try.func29, Try.ntmps29
    go_wp2
    all_goals (go_ret; first | exact ⟨ret_u64 H2.out, rfl⟩ | (exfalso; simp [IntKind.signed] at *))
  · have hb' : (bits .and .u64 f 9223372036854775808 != 0) = false := by rw [hb]; simp; omega
    have hr : rankI f = f + 9223372036854775808 := by unfold rankI; rw [if_neg hs]
    rw [hr]
    have H2 := Lib.hid (u64_signed f h0 (by omega))
    clear h2 hb hr
    go_enter Try.func29, Try.ntmps29
    go_wp2
    go_ret
    exact ⟨ret_u64 H2.out, rfl⟩

theorem rrank_any (f : Int) (w : World) (h0 : 0 ≤ f) (h1 : f < 18446744073709551616) :
    Calls Try.prog 30 #[.int .u64 f] w fun e w' => e = .returned (.int .u64 (rrankI f)) ∧ w = w' := by
  go_enter Try.func30, Try.ntmps30
  go_wp2
  all_goals (go_ret; refine ⟨ret_u64 ?_, rfl⟩; unfold rrankI rankI; simp_all <;> omega)

theorem int_any (n : Int) (w : World) :
    Calls Try.prog 15 #[.int .i64 n] w fun e w' => e = .returned (val 2 n 0 ⟨#[]⟩) ∧ Below w.heap.size w w' := by
  go_enter Try.func15, Try.ntmps15
  go_wp2
  exact bodyPost_ret (v := val 2 n 0 ⟨#[]⟩) (by simp [results, Try.results15, go_sem]) rfl ⟨rfl, (Below.refl _ _).alloc (Nat.le_refl _) _⟩

theorem textof_any (s : ByteArray) (w : World) :
    Calls Try.prog 24 #[.string s] w fun e w' => e = .returned (val 4 0 0 s) ∧ Below w.heap.size w w' := by
  go_enter Try.func24, Try.ntmps24
  go_wp2
  exact bodyPost_ret (v := val 4 0 0 s) (by simp [results, Try.results24, go_sem]) rfl ⟨rfl, (Below.refl _ _).alloc (Nat.le_refl _) _⟩

/-- A flag's number. -/
def flagN (b : Bool) : Int := if b then 1 else 0
theorem flag_any (b : Bool) (w : World) :
    Calls Try.prog 14 #[.bool b] w fun e w' => e = .returned (val 1 (flagN b) 0 ⟨#[]⟩) ∧ Below w.heap.size w w' := by
  cases b
  all_goals
    go_enter Try.func14, Try.ntmps14
    go_wp2
  · exact bodyPost_ret (v := val 1 0 0 ⟨#[]⟩) (by simp [results, Try.results14, go_sem]) rfl ⟨rfl, ((Below.refl _ _).alloc (Nat.le_refl _) _).alloc (by simp) _⟩
  · exact bodyPost_ret (v := val 1 1 0 ⟨#[]⟩) (by simp [results, Try.results14, go_sem]) rfl ⟨rfl, ((Below.refl _ _).alloc (Nat.le_refl _) _).alloc (by simp) _⟩

theorem ret_val3 {a b : Int} (h : a = b) : Ending.returned (val 3 0 a ⟨#[]⟩) = .returned (val 3 0 b ⟨#[]⟩) := by rw [h]
theorem canon_no {f : Int} (h : nanI f = false) : f = canonI f := by unfold canonI; rw [h]; rfl
theorem canon_yes {f : Int} (h : nanI f = true) : 9221120237041090560 = canonI f := by unfold canonI; rw [h]; rfl

theorem float_any (b : Nat) (w : World) (hb : b < 18446744073709551616) :
    Calls Try.prog 16 #[.float .f64 b] w fun e w' => e = .returned (val 3 0 (canonI b) ⟨#[]⟩) ∧ Below w.heap.size w w' := by
  have hx := bits_of b
  cases hn : nanI b
  all_goals
    go_enter Try.func16, Try.ntmps16
    go_wp2_with (go_at_call 28; refine (isnan_any _ _).mono ?_; rintro e w' ⟨rfl, rfl⟩)
  · exact bodyPost_ret (v := val 3 0 b ⟨#[]⟩) (by simp [results, Try.results16, go_sem]) rfl ⟨ret_val3 (canon_no hn), ((Below.refl _ _).alloc (Nat.le_refl _) _).alloc (by simp) _⟩
  · exact bodyPost_ret (v := val 3 0 9221120237041090560 ⟨#[]⟩) (by simp [results, Try.results16, go_sem]) rfl ⟨ret_val3 (canon_yes hn), ((Below.refl _ _).alloc (Nat.le_refl _) _).alloc (by simp) _⟩

theorem rfloat_any (f : Int) (w : World) (h0 : 0 ≤ f) (h1 : f < 18446744073709551616) :
    Calls Try.prog 18 #[.int .u64 f] w fun e w' => e = .returned (val 3 0 (canonI f) ⟨#[]⟩) ∧ Below w.heap.size w w' := by
  cases hn : nanI f
  all_goals
    go_enter Try.func18, Try.ntmps18
    go_wp2_with (go_at_call 26; refine (none_any _ _ h0 h1).mono ?_; rintro e w' ⟨rfl, rfl⟩)
  · exact bodyPost_ret (v := val 3 0 f ⟨#[]⟩) (by simp [results, Try.results18, go_sem]) rfl ⟨ret_val3 (canon_no hn), (Below.refl _ _).alloc (Nat.le_refl _) _⟩
  · exact bodyPost_ret (v := val 3 0 9221120237041090560 ⟨#[]⟩) (by simp [results, Try.results18, go_sem]) rfl ⟨ret_val3 (canon_yes hn), (Below.refl _ _).alloc (Nat.le_refl _) _⟩
end Go.Proofs.Ytgckofoaiojocaa
