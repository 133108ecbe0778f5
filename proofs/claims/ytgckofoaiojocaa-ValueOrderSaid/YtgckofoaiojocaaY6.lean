
import Derived.Test.YtgckofoaiojocaaY5
namespace Go.Proofs.Ytgckofoaiojocaa
open Go.RowKit
set_option linter.unusedVariables false

theorem toList_nil (s : ByteArray) : s.toList = [] ↔ s.size = 0 := by
  have h := empty_iff s
  rw [Bool.eq_iff_iff] at h
  simpa using h
theorem canon_iff (f : Int) : canonI f = f ↔ (nanI f = false ∨ f = 9221120237041090560) := by
  unfold canonI
  split
  · rename_i h; rw [h]; simp; exact eq_comm
  · rename_i h; simp at h; simp [h]
theorem rvmay1 (n f : Int) (s : ByteArray) : vmay 1 n f s = (decide (f = 0 ∧ s.toList = []) && (n == 0 || n == 1)) := by
  unfold vmay; rw [Bool.eq_iff_iff]; simp [toList_nil]; constructor
  · rintro ⟨a, b, c⟩; exact ⟨⟨b, c⟩, a⟩
  · rintro ⟨⟨b, c⟩, a⟩; exact ⟨a, b, c⟩
theorem rvmay3 (n f : Int) (s : ByteArray) : vmay 3 n f s = (decide (n = 0 ∧ s.toList = []) && (!nanI f || f == 9221120237041090560)) := by
  unfold vmay; rw [Bool.eq_iff_iff]; simp [toList_nil, canon_iff]; constructor
  · rintro ⟨a, b, c⟩; exact ⟨⟨a, c⟩, b⟩
  · rintro ⟨⟨a, c⟩, b⟩; exact ⟨a, b, c⟩
theorem rvmay4 (n f : Int) (s : ByteArray) : vmay 4 n f s = (decide (n = 0 ∧ f = 0) && decide (s.size ≤ 64) && (rErr (sbytes s) == 0)) := by
  unfold vmay textB; rw [Bool.eq_iff_iff]; simp; constructor
  · rintro ⟨a, b, c, d⟩; exact ⟨⟨⟨a, b⟩, c⟩, d⟩
  · rintro ⟨⟨⟨a, b⟩, c⟩, d⟩; exact ⟨a, b, c, d⟩

theorem rmay_one (n f : Int) (s : ByteArray) (w : World) :
    Calls Try.prog 9 #[val 1 n f s] w fun e w' => e = .returned (.bool (vmay 1 n f s)) ∧ Below w.heap.size w w' := by
  have hq := fun n' f' s' w => val_eql 1 n f 1 n' f' s s' w
  have hB := (Below.refl w.heap.size w).alloc (Nat.le_refl _) (.cells (vcells 1 n f s) 24)
  have HE := Lib.hid (rvmay1 n f s)
  go_enter Try.func9, Try.ntmps9
  go_wp2
  all_goals
    go_ret
    refine ⟨ret_bool ?_, (Below.refl _ _).alloc (Nat.le_refl _) _⟩
    have he := HE.out
    simp_all

theorem rmay_two (n f : Int) (s : ByteArray) (w : World) :
    Calls Try.prog 9 #[val 2 n f s] w fun e w' => e = .returned (.bool (vmay 2 n f s)) ∧ Below w.heap.size w w' := by
  have hq := fun n' f' s' w => val_eql 2 n f 2 n' f' s s' w
  have hB := (Below.refl w.heap.size w).alloc (Nat.le_refl _) (.cells (vcells 2 n f s) 24)
  have HE := Lib.hid (vmay2 n f s)
  go_enter Try.func9, Try.ntmps9
  go_wp2
  go_ret
  exact ⟨ret_bool (by rw [← HE.out]), hB⟩

theorem rmay_three (n f : Int) (s : ByteArray) (w : World) (h0 : 0 ≤ f) (h1 : f < 18446744073709551616) :
    Calls Try.prog 9 #[val 3 n f s] w fun e w' => e = .returned (.bool (vmay 3 n f s)) ∧ Below w.heap.size w w' := by
  have hq := fun n' f' s' w => val_eql 3 n f 3 n' f' s s' w
  have hB := (Below.refl w.heap.size w).alloc (Nat.le_refl _) (.cells (vcells 3 n f s) 24)
  have HE := Lib.hid (rvmay3 n f s)
  have HN := Lib.hid (fun w => none_any f w h0 h1)
  go_enter Try.func9, Try.ntmps9
  go_wp2_with (go_at_call 26; refine (HN.out _).mono ?_; rintro e w' ⟨rfl, rfl⟩)
  all_goals
    go_ret
    refine ⟨ret_bool ?_, (Below.refl _ _).alloc (Nat.le_refl _) _⟩
    have he := HE.out
    simp_all

theorem rmay_other (k n f : Int) (s : ByteArray) (w : World) (h1 : k ≠ 1) (h2 : k ≠ 2) (h3 : k ≠ 3) (h4 : k ≠ 4) :
    Calls Try.prog 9 #[val k n f s] w fun e w' => e = .returned (.bool (vmay k n f s)) ∧ Below w.heap.size w w' := by
  have hB := (Below.refl w.heap.size w).alloc (Nat.le_refl _) (.cells (vcells k n f s) 24)
  have HE := Lib.hid (vmay0 k n f s h1 h2 h3 h4)
  have e1 : (k == 1) = false := by simpa using h1
  have e2 : (k == 2) = false := by simpa using h2
  have e3 : (k == 3) = false := by simpa using h3
  have e4 : (k == 4) = false := by simpa using h4
  go_enter Try.func9, Try.ntmps9
  go_wp2
  go_ret
  exact ⟨ret_bool (by rw [← HE.out]), hB⟩

theorem rmay_four (n f : Int) (s : ByteArray) (w : World) (hs : s.size ≤ 1000000) :
    Calls Try.prog 9 #[val 4 n f s] w fun e w' => e = .returned (.bool (vmay 4 n f s)) ∧ Below w.heap.size w w' := by
  have hq := fun n' f' s' w => val_eql 4 n f 4 n' f' s s' w
  have hB := (Below.refl w.heap.size w).alloc (Nat.le_refl _) (.cells (vcells 4 n f s) 24)
  have hA := At.box 4 n f s w 24
  have HE := Lib.hid (rvmay4 n f s)
  obtain ⟨v, w1, hc, hi, hb⟩ := bytes_of s (w.alloc (.cells (vcells 4 n f s) 24)) hs
  have hA1 := hA.below hb
  have HR := Lib.hid ((rread_any v (sbytes s) w1 hi (sbytes_wf s) (by rw [sbytes_len]; omega)).mono fun e w' h => read_out h)
  clear hi hA hs
  obtain ⟨x, hx⟩ : ∃ x, rErr (sbytes s) = x := ⟨_, rfl⟩
  rw [hx] at HE
  have HX := Lib.hid hx
  clear hx
  go_enter Try.func9, Try.ntmps9
  go_wp2_with (go_at_call 27; refine HR.out.mono ?_; rintro e w2 ⟨hb2, v2, rfl, _⟩; rw [HX.out]; have hA2 := hA1.below hb2)
  all_goals
    go_ret
    refine ⟨ret_bool ?_, hB.trans ((hb.trans (hb2.mono hb.size)).mono (by simp))⟩
    have he := HE.out
    clear HE HX HR hA1 hA2 hb hb2 hB hc hq
    simp_all
    try omega

theorem rvmay_any (k n f : Int) (s : ByteArray) (w : World) (h0 : 0 ≤ f) (h1 : f < 18446744073709551616) (hs : s.size ≤ 1000000) :
    Calls Try.prog 9 #[val k n f s] w fun e w' => e = .returned (.bool (vmay k n f s)) ∧ Below w.heap.size w w' := by
  by_cases e1 : k = 1
  · subst e1; exact rmay_one n f s w
  · by_cases e2 : k = 2
    · subst e2; exact rmay_two n f s w
    · by_cases e3 : k = 3
      · subst e3; exact rmay_three n f s w h0 h1
      · by_cases e4 : k = 4
        · subst e4; exact rmay_four n f s w hs
        · exact rmay_other k n f s w e1 e2 e3 e4
end Go.Proofs.Ytgckofoaiojocaa
