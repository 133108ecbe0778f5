
import Derived.Test.YtgckofoaiojocaaY4
namespace Go.Proofs.Ytgckofoaiojocaa
open Go.RowKit
set_option linter.unusedVariables false

/-- A value's four cells at a block. -/
@[reducible] def At (B : Nat) (k n f : Int) (s : ByteArray) (w : World) : Prop :=
  w.cell? ⟨B, 0, none⟩ = some (.int .u8 k) ∧ w.cell? ⟨B, 1, none⟩ = some (.int .i64 n) ∧ w.cell? ⟨B, 2, none⟩ = some (.int .u64 f) ∧ w.cell? ⟨B, 3, none⟩ = some (.string s)
theorem At.below {B : Nat} {k n f : Int} {s : ByteArray} {w w' : World} (h : At B k n f s w) (hb : Below w.heap.size w w') : At B k n f s w' := by
  obtain ⟨h0, h1, h2, h3⟩ := h
  exact ⟨by rw [hb.cell (World.block_lt_of_cell? w _ h0)]; exact h0, by rw [hb.cell (World.block_lt_of_cell? w _ h1)]; exact h1, by rw [hb.cell (World.block_lt_of_cell? w _ h2)]; exact h2, by rw [hb.cell (World.block_lt_of_cell? w _ h3)]; exact h3⟩
theorem At.box (k n f : Int) (s : ByteArray) (w : World) (t : TypeId) : At w.heap.size k n f s (w.alloc (.cells (vcells k n f s) t)) := by
  refine ⟨?_, ?_, ?_, ?_⟩ <;> (rw [cell_of_row _ w.heap.size _ _ t (0, 0) (heap_alloc_new w _)]; rfl)

/-- May a value be. -/
def vmay (k n f : Int) (s : ByteArray) : Bool :=
  decide ((k = 1 ∧ (n = 0 ∨ n = 1) ∧ f = 0 ∧ s.size = 0) ∨ (k = 2 ∧ f = 0 ∧ s.size = 0) ∨ (k = 3 ∧ n = 0 ∧ canonI f = f ∧ s.size = 0) ∨ (k = 4 ∧ n = 0 ∧ f = 0 ∧ textB s = true))

theorem empty_iff (s : ByteArray) : s.toList.isEmpty = decide (s.size = 0) := by
  rw [Lib.toList_data]
  obtain ⟨⟨l⟩⟩ := s
  cases l <;> simp [ByteArray.size]

theorem vmay1 (n f : Int) (s : ByteArray) : (n == flagN (n == 1) && f == 0 && s.toList.isEmpty) = vmay 1 n f s := by
  rw [empty_iff]
  unfold vmay flagN
  rw [Bool.eq_iff_iff]
  by_cases h : n = 1
  · simp [h]
  · have : (n == 1) = false := by simpa using h
    rw [this]
    simp [h]
    constructor
    · rintro ⟨⟨a, b⟩, c⟩; exact ⟨a, b, c⟩
    · rintro ⟨a, b, c⟩; exact ⟨⟨a, b⟩, c⟩
theorem vmay2 (n f : Int) (s : ByteArray) : (f == 0 && s.toList.isEmpty) = vmay 2 n f s := by
  rw [empty_iff]; unfold vmay; rw [Bool.eq_iff_iff]; simp
theorem vmay3 (n f : Int) (s : ByteArray) : (n == 0 && f == canonI f && s.toList.isEmpty) = vmay 3 n f s := by
  rw [empty_iff]; unfold vmay; rw [Bool.eq_iff_iff]; simp; constructor
  · rintro ⟨⟨a, b⟩, c⟩; exact ⟨a, b.symm, c⟩
  · rintro ⟨a, b, c⟩; exact ⟨⟨a, b.symm⟩, c⟩
theorem vmay4 (n f : Int) (s : ByteArray) (h : textB s = true) : (n == 0 && f == 0) = vmay 4 n f s := by
  unfold vmay; rw [Bool.eq_iff_iff]; simp [h]
theorem vmay4n (n f : Int) (s : ByteArray) (h : textB s = false) : false = vmay 4 n f s := by
  unfold vmay; simp [h]
theorem vmay0 (k n f : Int) (s : ByteArray) (h1 : k ≠ 1) (h2 : k ≠ 2) (h3 : k ≠ 3) (h4 : k ≠ 4) : false = vmay k n f s := by
  unfold vmay; simp [h1, h2, h3, h4]

theorem may_one (n f : Int) (s : ByteArray) (w : World) :
    Calls Try.prog 13 #[val 1 n f s] w fun e w' => e = .returned (.bool (vmay 1 n f s)) ∧ Below w.heap.size w w' := by
  have hq := fun n' f' s' w => val_eql 1 n f 1 n' f' s s' w
  have hA := (At.box 1 n f s w 24).below ((Below.refl _ _).drew)
  have hB := (Below.refl w.heap.size w).alloc (Nat.le_refl _) (.cells (vcells 1 n f s) 24)
  have HE := Lib.hid (vmay1 n f s)
  go_enter Try.func13, Try.ntmps13
  go_wp2
  go_region_held3 (fun w' => At w.heap.size 1 n f s w') (first | assumption | trivial)
    (first
      | (go_at_call 14; ((with_reducible refine (flag_any _ _).mono ?_); rintro e w7 ⟨rfl, b7⟩; have h7 := hA.below b7)))
  go_wp2
  go_ret
  exact ⟨ret_bool HE.out, hB.drew.trans (b7.mono (by simp))⟩

theorem may_two (n f : Int) (s : ByteArray) (w : World) :
    Calls Try.prog 13 #[val 2 n f s] w fun e w' => e = .returned (.bool (vmay 2 n f s)) ∧ Below w.heap.size w w' := by
  have hq := fun n' f' s' w => val_eql 2 n f 2 n' f' s s' w
  have hA := (At.box 2 n f s w 24).below ((Below.refl _ _).drew)
  have hB := (Below.refl w.heap.size w).alloc (Nat.le_refl _) (.cells (vcells 2 n f s) 24)
  have HE := Lib.hid (vmay2 n f s)
  go_enter Try.func13, Try.ntmps13
  go_wp2
  go_region_held3 (fun w' => At w.heap.size 2 n f s w') (first | assumption | trivial)
    (first
      | (go_at_call 15; ((with_reducible refine (int_any _ _).mono ?_); rintro e w7 ⟨rfl, b7⟩; have h7 := hA.below b7)))
  go_wp2
  go_ret
  exact ⟨ret_bool (by rw [← HE.out]), hB.drew.trans (b7.mono (by simp))⟩

theorem may_three (n f : Int) (s : ByteArray) (w : World) (h0 : 0 ≤ f) (h1 : f < 18446744073709551616) :
    Calls Try.prog 13 #[val 3 n f s] w fun e w' => e = .returned (.bool (vmay 3 n f s)) ∧ Below w.heap.size w w' := by
  have hq := fun n' f' s' w => val_eql 3 n f 3 n' f' s s' w
  have hx := of_bits f
  have hc : canonI (f.toNat : Int) = canonI f := by rw [Int.toNat_of_nonneg h0]
  have hl : f.toNat < 18446744073709551616 := by omega
  have hA := (At.box 3 n f s w 24).below ((Below.refl _ _).drew)
  have hB := (Below.refl w.heap.size w).alloc (Nat.le_refl _) (.cells (vcells 3 n f s) 24)
  have HE := Lib.hid (vmay3 n f s)
  have HF : ∀ w, Calls Try.prog 16 #[.float .f64 f.toNat] w fun e w' => e = .returned (val 3 0 (canonI f) ⟨#[]⟩) ∧ Below w.heap.size w w' := fun w => by rw [← hc]; exact float_any _ w hl
  have HF := Lib.hid HF
  clear hc hl
  go_enter Try.func13, Try.ntmps13
  go_wp2
  go_region_held3 (fun w' => At w.heap.size 3 n f s w') (first | assumption | trivial)
    (first
      | (go_at_call 16; ((with_reducible refine (HF.out _).mono ?_); rintro e w7 ⟨rfl, b7⟩; have h7 := hA.below b7)))
  go_wp2
  go_ret
  exact ⟨ret_bool (by rw [← HE.out]), hB.drew.trans (b7.mono (by simp))⟩

theorem may_four (n f : Int) (s : ByteArray) (w : World) :
    Calls Try.prog 13 #[val 4 n f s] w fun e w' => e = .returned (.bool (vmay 4 n f s)) ∧ Below w.heap.size w w' := by
  have hq := fun n' f' s' w => val_eql 4 n f 4 n' f' s s' w
  have hA := (At.box 4 n f s w 24).below ((Below.refl _ _).drew)
  have hB := (Below.refl w.heap.size w).alloc (Nat.le_refl _) (.cells (vcells 4 n f s) 24)
  cases ht : textB s
  · have HE := Lib.hid (vmay4n n f s ht)
    have HF : ∀ w, Calls Try.prog 23 #[.string s] w fun e w' => e = .returned (.bool false) ∧ Below w.heap.size w w' := fun w => by rw [← ht]; exact istext_any _ w
    have HF := Lib.hid HF
    clear ht
    go_enter Try.func13, Try.ntmps13
    go_wp2
    first
      | (go_region_with (go_at_call 23; ((with_reducible refine (HF.out _).mono ?_); rintro e w7 ⟨rfl, b7⟩)))
      | fail
    all_goals
      go_wp2
      go_ret
      exact ⟨ret_bool (by rw [← HE.out]), hB.drew.trans (b7.mono (by simp))⟩
  · have HE := Lib.hid (vmay4 n f s ht)
    have HF : ∀ w, Calls Try.prog 23 #[.string s] w fun e w' => e = .returned (.bool true) ∧ Below w.heap.size w w' := fun w => by rw [← ht]; exact istext_any _ w
    have HF := Lib.hid HF
    clear ht
    go_enter Try.func13, Try.ntmps13
    go_wp2
    go_region_held (fun w' => At w.heap.size 4 n f s w') (first | assumption | trivial)
      (first
        | (go_at_call 23; ((with_reducible refine (HF.out _).mono ?_); rintro e w7 ⟨rfl, b7⟩; have h7 := hA.below b7))
        | (go_at_call 24; ((with_reducible refine (textof_any _ _).mono ?_); rintro e w8 ⟨rfl, b8⟩; have h8 := h7.below b8)))
    go_wp2
    go_ret
    exact ⟨ret_bool (by rw [← HE.out]), (hB.drew.trans (b7.mono (by simp))).trans (b8.mono (by have := b7.size; simp at this; omega))⟩

theorem may_other (k n f : Int) (s : ByteArray) (w : World) (h1 : k ≠ 1) (h2 : k ≠ 2) (h3 : k ≠ 3) (h4 : k ≠ 4) :
    Calls Try.prog 13 #[val k n f s] w fun e w' => e = .returned (.bool (vmay k n f s)) ∧ Below w.heap.size w w' := by
  have hB := (Below.refl w.heap.size w).alloc (Nat.le_refl _) (.cells (vcells k n f s) 24)
  have HE := Lib.hid (vmay0 k n f s h1 h2 h3 h4)
  have e1 : (k == 1) = false := by simpa using h1
  have e2 : (k == 2) = false := by simpa using h2
  have e3 : (k == 3) = false := by simpa using h3
  have e4 : (k == 4) = false := by simpa using h4
  go_enter Try.func13, Try.ntmps13
  go_wp2
  go_ret
  exact ⟨ret_bool (by rw [← HE.out]), hB⟩

theorem vmay_any (k n f : Int) (s : ByteArray) (w : World) (h0 : 0 ≤ f) (h1 : f < 18446744073709551616) :
    Calls Try.prog 13 #[val k n f s] w fun e w' => e = .returned (.bool (vmay k n f s)) ∧ Below w.heap.size w w' := by
  by_cases e1 : k = 1
  · subst e1; exact may_one n f s w
  · by_cases e2 : k = 2
    · subst e2; exact may_two n f s w
    · by_cases e3 : k = 3
      · subst e3; exact may_three n f s w h0 h1
      · by_cases e4 : k = 4
        · subst e4; exact may_four n f s w
        · exact may_other k n f s w e1 e2 e3 e4
end Go.Proofs.Ytgckofoaiojocaa
