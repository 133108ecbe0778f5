import Derived.Test.YtmmmmjmnnapbcaaV2
namespace Go.Proofs.Ytmmmmjmnnapbcaa
open Go.RowKit
set_option linter.unusedVariables false

set_option maxHeartbeats 1000000 in
set_option maxRecDepth 100000 in
theorem form_any (n : Nat) (w : World) (hn : Fits n) :
    Calls Try.prog 13 #[.int .u64 n] w (Made (form n) w) := by
  obtain ⟨i0, hi, hz0, hz1, hz2⟩ := info_parts info8
  have H10 := form_ten n hn
  obtain ⟨B, hB⟩ : ∃ B, w.heap.size = B := ⟨_, rfl⟩
  have HB := Lib.hid hB
  have hBle : B ≤ w.heap.size := by omega
  clear hB
  go_enter Try.func13, Try.ntmps13
  go_wp2
  go_loopw [0, 3] (fun i o wr => ∃ (m : Nat) (pre : List Int), i = .int .u64 m ∧ Fits m ∧ wr.ownsRow B 5 1 o pre.length (pre.map (Value.int .u8)) ∧ Hid (form n = pre ++ form m) ∧ Below B w wr) (fun i _ _ => (intOf i).toNat)
  case atStart => exact ⟨n, [], rfl, hn, World.ownsRow_nil _ _ _ _, by simp [Hid], Below.refl _ _⟩
  case round =>
    obtain ⟨m, pre, rfl, hm, hown', hf, hb⟩ := hrel
    have hsz := hb.size
    have hpl : pre.length ≤ 10 := by
      have e := congrArg List.length hf.out
      have := form_pos m
      simp only [List.length_append] at e
      omega
    have hw : IntKind.u64.wrap ((m : Int) / 128) = (m : Int) / 128 := by
      unfold Fits at hm
      rw [IntKind.wrap_u64]
      omega
    by_cases hlt : 128 ≤ m
    · have q1 : ((m : Int) / 128 == 0) = false := by rw [beq_eq_false_iff_ne]; omega
      go_wp2_with (at_builtin; refine wpList_append_ints rfl (.tmp 16) (.tmp 19) 22 rfl B 5 i0 (.int .u8 0) 1 Try.underlying22 hi hz0 hz1 hz2 rfl _ _ _ rfl (hown'.alloc _) _ .u8 _ rfl (ints_one _ _ _ _) (by unfold maxLen; simp; omega) (by simp; omega) (by simp; omega) ?_)
      intro v1 w1 hown1 hg1
      have hown2 : w1.ownsRow B 5 1 v1 (pre ++ [((m % 128 + 128 : Nat) : Int)]).length ((pre ++ [((m % 128 + 128 : Nat) : Int)]).map (Value.int .u8)) := by
        have e : ((m % 128 + 128 : Nat) : Int) = (m : Int) % 128 + 128 := by omega
        rw [e]
        simpa [Nat.add_assoc] using hown1
      have hb1 : Below B w w1 := (hb.alloc (by omega) _).grown hg1 (by simp; omega) (fun k hk => (hown'.lt k hk).1)
      have hf2 : Hid (form n = (pre ++ [((m % 128 + 128 : Nat) : Int)]) ++ form (m / 128)) := by
        show form n = _
        rw [hf.out, form_big m (by omega)]
        simp
      have hm2 : Fits (m / 128) := Nat.lt_of_le_of_lt (Nat.div_le_self _ _) hm
      clear hown1 hg1 hown' hb hf
      go_wp2
      go_roundw
      case rel => exact ⟨m / 128, _, by go_num, hm2, hown2, hf2, hb1⟩
      case measure => simp [intOf]; omega
    · have q1 : ((m : Int) / 128 == 0) = true := by rw [beq_iff_eq]; omega
      go_wp2_with (at_builtin; refine wpList_append_ints rfl (.tmp 12) (.tmp 14) 22 rfl B 5 i0 (.int .u8 0) 1 Try.underlying22 hi hz0 hz1 hz2 rfl _ _ _ rfl (hown'.alloc _) _ .u8 _ rfl (ints_one _ _ _ _) (by unfold maxLen; simp; omega) (by simp; omega) (by simp; omega) ?_)
      intro v1 w1 hown1 hg1
      have hb1 : Below B w w1 := (hb.alloc (by omega) _).grown hg1 (by simp; omega) (fun k hk => (hown'.lt k hk).1)
      have hown2 : w1.ownsRow B 5 1 v1 (form n).length ((form n).map (Value.int .u8)) := by
        have e : (m : Int) % 128 = m := by omega
        rw [hf.out, form_small m (by omega)]
        rw [e] at hown1
        simpa [Nat.add_assoc] using hown1
      go_wp2
      go_ret
      exact ⟨_, rfl, HB.out.symm ▸ hown2, HB.out.symm ▸ hb1⟩
end Go.Proofs.Ytmmmmjmnnapbcaa
