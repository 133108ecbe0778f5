import Derived.Test.YtmmmmjmnnapbcaaV9
namespace Go.Proofs.Ytmmmmjmnnapbcaa
open Go.RowKit
set_option linter.unusedVariables false

/-- A form in memory of its own: a slice of so many bytes. -/
def Formed (n : Nat) (w : World) (e : Ending) (w' : World) : Prop := ∃ a cap, e = .returned (.slice a (form n).length cap) ∧ Ints .u8 w' (.slice a (form n).length cap) (form n) ∧ Below w.heap.size w w'
theorem formed {n : Nat} {w w' : World} {e : Ending} (h : Made ([] ++ form n) w e w') : Formed n w e w' := by
  obtain ⟨v, rfl, hown, hb⟩ := h
  rw [List.nil_append] at hown
  have hi := (Ints.of_owns hown).1
  obtain ⟨a, cap, rfl⟩ := hi.shape
  exact ⟨a, cap, rfl, hi, hb⟩
theorem formed_any (n : Nat) (w : World) (hn : Fits n) : Calls Try.prog 10 #[.slice none 0 0, .int .u64 n] w (Formed n w) :=
  (appendUint_any _ [] n w (ints_nil .u8 w) (by simp) hn).mono fun _ _ h => formed h
theorem formedi_any (i : Int) (w : World) (h1 : -9223372036854775808 ≤ i) (h2 : i ≤ 9223372036854775807) : Calls Try.prog 11 #[.slice none 0 0, .int .i64 i] w (Formed (zig i) w) :=
  (appendInt_any _ [] i w (ints_nil .u8 w) (by simp) h1 h2).mono fun _ _ h => formed h

theorem form_min : (form (zig (-9223372036854775808))).length = 10 := by
  have h1 := form_ten (zig (-9223372036854775808)) (by decide)
  have h2 : ∀ k : Nat, (form (2 ^ (7 * k) * 1)).length = k + 1 := by
    intro k
    induction k with
    | zero => rw [form_small _ (by decide)]; rfl
    | succ k ih =>
      have hp : 0 < 2 ^ (7 * k) := Nat.pow_pos (by omega)
      have e : 2 ^ (7 * (k + 1)) * 1 = 2 ^ (7 * k) * 1 * 128 := by rw [Nat.mul_add, Nat.pow_add]; omega
      rw [e, form_big _ (by omega), List.length_cons, Nat.mul_div_cancel _ (by omega), ih]
  have h3 := form_mono (2 ^ (7 * 9) * 1) (zig (-9223372036854775808)) (by decide)
  rw [h2 9] at h3
  omega

def Sized (A : Nat) (w : World) (e : Ending) (w' : World) : Prop := ∃ a cap, e = .returned (.slice a A cap) ∧ Below w.heap.size w w'
theorem sized_any (n : Nat) (w : World) (hn : Fits n) : Calls Try.prog 10 #[.slice none 0 0, .int .u64 n] w (Sized (form n).length w) :=
  (formed_any n w hn).mono fun _ _ ⟨a, cap, h1, _, h2⟩ => ⟨a, cap, h1, h2⟩
theorem sizedi_any (i : Int) (w : World) (h1 : -9223372036854775808 ≤ i) (h2 : i ≤ 9223372036854775807) : Calls Try.prog 11 #[.slice none 0 0, .int .i64 i] w (Sized (form (zig i)).length w) :=
  (formedi_any i w h1 h2).mono fun _ _ ⟨a, cap, h1, _, h2⟩ => ⟨a, cap, h1, h2⟩

set_option maxHeartbeats 4000000 in
set_option maxRecDepth 100000 in
theorem order_walk (n m : Nat) (i : Int) (w : World) (hn : Fits n) (hm : Fits m) (h1 : -9223372036854775808 ≤ i) (h2 : i ≤ 9223372036854775807) :
    Calls Try.prog 7 #[.int .u64 n, .int .u64 m, .int .i64 i] w fun e w' => e = .returned (.bool true) ∧ Below w.heap.size w w' := by
  have C1 := sized_any n w hn
  have hl1 := form_pos n
  have hl2 := form_ten n hn
  have hl3 := form_pos m
  have hl4 := form_ten m hm
  have hlt : (n : Int) < m → ((form n).length : Int) ≤ (form m).length := fun h => by have := form_mono n m (by omega); omega
  have hgt : (m : Int) < n → ((form m).length : Int) ≤ (form n).length := fun h => by have := form_mono m n (by omega); omega
  have C2 := Lib.hid (fun w => sized_any m w hm)
  have hz := zig_near i
  have U1 := form_pos (zig i)
  have U2 := form_ten (zig i) (zig_lt i h1 h2)
  have CU := Lib.hid (fun w => sizedi_any i w h1 h2)
  have hmin : i = -9223372036854775808 → (form (zig i)).length = 10 := fun h => by rw [h]; exact form_min
  have CD : Hid (-9223372036854775808 < i → ∀ w, Calls Try.prog 11 #[.slice none 0 0, .int .i64 (-i)] w (Sized (form (zig (-i))).length w)) := fun h w => sizedi_any (-i) w (by omega) (by omega)
  generalize (form n).length = A at *
  generalize (form m).length = B at *
  generalize (form (zig i)).length = U at *
  generalize (form (zig (-i))).length = D at *
  clear hn hm
  have hcases : ((n : Int) < m ∧ (A : Int) ≤ B) ∨ (¬ (n : Int) < m ∧ (m : Int) < n ∧ (B : Int) ≤ A) ∨ (¬ (n : Int) < m ∧ ¬ (m : Int) < n) := by
    rcases (by omega : (n : Int) < m ∨ (m : Int) < n ∨ (n : Int) = m) with h | h | h
    · exact .inl ⟨h, hlt h⟩
    · exact .inr (.inl ⟨by omega, h, hgt h⟩)
    · exact .inr (.inr ⟨by omega, by omega⟩)
  clear hlt hgt
  rcases hcases with ⟨h, hq⟩ | ⟨h, h', hq⟩ | ⟨h, h'⟩
  all_goals
    by_cases hi : i = -9223372036854775808
    · obtain rfl := hmin hi
      have q1 : (i == -9223372036854775808) = true := by rw [beq_iff_eq]; exact hi
      clear hmin hi CD hz
      go_enter Try.func7, Try.ntmps7
      go_wp2_with (go_at_call 10; refine C1.mono ?_)
      rintro e w1 ⟨a1, c1, rfl, b1⟩
      go_wp2_with (go_at_call 10; refine (C2.out _).mono ?_)
      rintro e w2 ⟨a2, c2, rfl, b2⟩
      have b12 := b1.trans (b2.mono b1.size)
      clear b1 b2
      go_wp2_with (go_at_call 11; refine (CU.out _).mono ?_)
      rintro e w3 ⟨a3, c3, rfl, b3⟩
      have b13 := b12.trans (b3.mono b12.size)
      clear b12 b3
      go_wp2_with (go_at_call 9; refine (known_any _).mono ?_; rintro e w' ⟨rfl, hb⟩)
      go_ret
      exact ⟨rfl, b13.trans (hb.mono b13.size)⟩
    · have q1 : (i == -9223372036854775808) = false := by rw [beq_eq_false_iff_ne]; exact hi
      have CD2 := Lib.hid (CD.out (by omega))
      have hi2 : -9223372036854775807 ≤ i := by omega
      obtain ⟨z1, z2⟩ := hz
      have z3 : (U : Int) - D ≤ 1 := by omega
      have z4 : (D : Int) - U ≤ 1 := by omega
      clear hmin hi CD
      go_enter Try.func7, Try.ntmps7
      go_wp2_with (go_at_call 10; refine C1.mono ?_)
      rintro e w1 ⟨a1, c1, rfl, b1⟩
      go_wp2_with (go_at_call 10; refine (C2.out _).mono ?_)
      rintro e w2 ⟨a2, c2, rfl, b2⟩
      have b12 := b1.trans (b2.mono b1.size)
      clear b1 b2
      go_wp2_with (go_at_call 11; refine (CU.out _).mono ?_)
      rintro e w3 ⟨a3, c3, rfl, b3⟩
      have b13 := b12.trans (b3.mono b12.size)
      clear b12 b3
      go_wp2_with (go_at_call 11; refine (CD2.out _).mono ?_)
      rintro e w4 ⟨a4, c4, rfl, b4⟩
      have b14 := b13.trans (b4.mono b13.size)
      clear b13 b4
      go_wp2_with (go_at_call 9; refine (known_any _).mono ?_; rintro e w' ⟨rfl, hb⟩)
      go_ret
      exact ⟨rfl, b14.trans (hb.mono b14.size)⟩
end Go.Proofs.Ytmmmmjmnnapbcaa
