
import Derived.Test.YtgckofoaiojocaaY6
import Derived.Test.YtgckofoaiojocaaYC
namespace Go.Proofs.Ytgckofoaiojocaa
open Go.RowKit
set_option linter.unusedVariables false

/-- The bits of a value's number; 0, where it is none. -/
def numF (k n f : Int) (s : ByteArray) : Nat := if vmay k n f s then (if k = 2 then floatOfInt .f64 n else if k = 3 then f.toNat else 0) else 0
def numOk (k n f : Int) (s : ByteArray) : Bool := vmay k n f s && (k == 2 || k == 3)

theorem number_any (k n f : Int) (s : ByteArray) (w : World) (h0 : 0 ≤ f) (h1 : f < 18446744073709551616) :
    Calls Try.prog 10 #[val k n f s] w fun e w' => e = .returned (.tuple #[.float .f64 (numF k n f s), .bool (numOk k n f s)]) ∧ Below w.heap.size w w' := by
  have hx := of_bits f
  have hy := fun b => bits_of b
  have hB := (Below.refl w.heap.size w).alloc (Nat.le_refl _) (.cells (vcells k n f s) 24)
  have hA := At.box k n f s w 24
  have HM := fun w => vmay_any k n f s w h0 h1
  have hN : ((f.toNat : Nat) : Int) = f := Int.toNat_of_nonneg h0
  cases hm : vmay k n f s
  · have e1 : numF k n f s = 0 := by unfold numF; simp [hm]
    have e2 : numOk k n f s = false := by unfold numOk; simp [hm]
    rw [hm] at HM
    have HM := Lib.hid HM
    rw [e1, e2]
    clear hm e1 e2 h0 h1 hN
    go_enter Try.func10, Try.ntmps10
    go_wp2_with (go_at_call 13; refine (HM.out _).mono ?_; rintro e w' ⟨rfl, hb⟩)
    go_ret2
    exact ⟨rfl, hB.trans (hb.mono (by simp))⟩
  · rw [hm] at HM
    have HM := Lib.hid HM
    by_cases k2 : k = 2
    · subst k2
      have e1 : numF 2 n f s = floatOfInt .f64 n := by unfold numF; simp [hm]
      have e2 : numOk 2 n f s = true := by unfold numOk; simp [hm]
      rw [e1, e2]
      clear hm e1 e2 h0 h1 hN
      go_enter Try.func10, Try.ntmps10
      go_wp2_with (go_at_call 13; refine (HM.out _).mono ?_; rintro e w' ⟨rfl, hb⟩; have hA2 := hA.below hb)
      go_ret2
      exact ⟨rfl, hB.trans (hb.mono (by simp))⟩
    · by_cases k3 : k = 3
      · subst k3
        have e1 : numF 3 n f s = f.toNat := by unfold numF; simp [hm]
        have e2 : numOk 3 n f s = true := by unfold numOk; simp [hm]
        rw [e1, e2]
        skip
        clear hm e1 e2 h0 h1 hN
        go_enter Try.func10, Try.ntmps10
        go_wp2_with (go_at_call 13; refine (HM.out _).mono ?_; rintro e w' ⟨rfl, hb⟩; have hA2 := hA.below hb)
        go_ret2
        exact ⟨rfl, hB.trans (hb.mono (by simp))⟩
      · have e1 : numF k n f s = 0 := by unfold numF; simp [k2, k3]
        have e2 : numOk k n f s = false := by unfold numOk; simp [k2, k3]
        rw [e1, e2]
        have q2 : (k == 2) = false := by simpa using k2
        have q3 : (k == 3) = false := by simpa using k3
        clear hm e1 e2 h0 h1 k2 k3 hN
        go_enter Try.func10, Try.ntmps10
        go_wp2_with (go_at_call 13; refine (HM.out _).mono ?_; rintro e w' ⟨rfl, hb⟩; have hA2 := hA.below hb)
        go_ret2
        exact ⟨rfl, hB.trans (hb.mono (by simp))⟩

theorem rnumber_any (k n f : Int) (s : ByteArray) (w : World) (h0 : 0 ≤ f) (h1 : f < 18446744073709551616) (hs : s.size ≤ 1000000) :
    Calls Try.prog 11 #[val k n f s] w fun e w' => e = .returned (.tuple #[.int .u64 ((numF k n f s : Nat) : Int), .bool (numOk k n f s)]) ∧ Below w.heap.size w w' := by
  have hx := of_bits f
  have hy := fun b => bits_of b
  have hB := (Below.refl w.heap.size w).alloc (Nat.le_refl _) (.cells (vcells k n f s) 24)
  have hA := At.box k n f s w 24
  have HM := fun w => rvmay_any k n f s w h0 h1 hs
  have hN : ((f.toNat : Nat) : Int) = f := Int.toNat_of_nonneg h0
  cases hm : vmay k n f s
  · have e1 : numF k n f s = 0 := by unfold numF; simp [hm]
    have e2 : numOk k n f s = false := by unfold numOk; simp [hm]
    rw [hm] at HM
    have HM := Lib.hid HM
    rw [e1, e2]
    clear hm e1 e2 h0 h1 hN
    go_enter Try.func11, Try.ntmps11
    go_wp2_with (go_at_call 9; refine (HM.out _).mono ?_; rintro e w' ⟨rfl, hb⟩)
    go_ret2
    exact ⟨rfl, hB.trans (hb.mono (by simp))⟩
  · rw [hm] at HM
    have HM := Lib.hid HM
    by_cases k2 : k = 2
    · subst k2
      have e1 : numF 2 n f s = floatOfInt .f64 n := by unfold numF; simp [hm]
      have e2 : numOk 2 n f s = true := by unfold numOk; simp [hm]
      rw [e1, e2]
      clear hm e1 e2 h0 h1 hN
      go_enter Try.func11, Try.ntmps11
      go_wp2_with (go_at_call 9; refine (HM.out _).mono ?_; rintro e w' ⟨rfl, hb⟩; have hA2 := hA.below hb)
      go_ret2
      exact ⟨rfl, hB.trans (hb.mono (by simp))⟩
    · by_cases k3 : k = 3
      · subst k3
        have e1 : numF 3 n f s = f.toNat := by unfold numF; simp [hm]
        have e2 : numOk 3 n f s = true := by unfold numOk; simp [hm]
        rw [e1, e2]
        rw [hN]
        clear hm e1 e2 h0 h1 hN
        go_enter Try.func11, Try.ntmps11
        go_wp2_with (go_at_call 9; refine (HM.out _).mono ?_; rintro e w' ⟨rfl, hb⟩; have hA2 := hA.below hb)
        go_ret2
        exact ⟨rfl, hB.trans (hb.mono (by simp))⟩
      · have e1 : numF k n f s = 0 := by unfold numF; simp [k2, k3]
        have e2 : numOk k n f s = false := by unfold numOk; simp [k2, k3]
        rw [e1, e2]
        have q2 : (k == 2) = false := by simpa using k2
        have q3 : (k == 3) = false := by simpa using k3
        clear hm e1 e2 h0 h1 k2 k3 hN
        go_enter Try.func11, Try.ntmps11
        go_wp2_with (go_at_call 9; refine (HM.out _).mono ?_; rintro e w' ⟨rfl, hb⟩; have hA2 := hA.below hb)
        go_ret2
        exact ⟨rfl, hB.trans (hb.mono (by simp))⟩
end Go.Proofs.Ytgckofoaiojocaa
