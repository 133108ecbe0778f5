
import Derived.Test.YtjgfgpkaeddjhaaOA
/- OB: how many newlines are ahead of a place, and in all; the rune at a place -/
namespace Go.Proofs.Ytjgfgpkaeddjhaa
open Go.RowKit
set_option linter.unusedVariables false

/-- How many newlines a list has. -/
def nl (l : List Int) : Nat := (l.filter (· == 10)).length
theorem nl_le (l : List Int) : nl l ≤ l.length := List.length_filter_le _ _
theorem nl_app (a b : List Int) : nl (a ++ b) = nl a + nl b := by simp [nl]
theorem nl_yes {l : List Int} {k : Nat} (h : ((slots l).getD k 0 == 11) = true) : nl (l.take (k + 1)) = nl (l.take k) + 1 := by
  rw [beq_iff_eq] at h
  by_cases hk : k < l.length
  · rw [slots_in hk] at h
    have h10 : l.getD k 0 = 10 := by omega
    rw [take_snoc l k hk, h10, nl_app]
    rfl
  · rw [slots_out (by omega)] at h
    cases h
theorem nl_no {l : List Int} {k : Nat} (h : ((slots l).getD k 0 == 11) = false) : nl (l.take (k + 1)) = nl (l.take k) := by
  rw [beq_eq_false_iff_ne] at h
  by_cases hk : k < l.length
  · rw [slots_in hk] at h
    have h10 : (l.getD k 0 == 10) = false := by rw [beq_eq_false_iff_ne]; omega
    rw [take_snoc l k hk, nl_app]
    have : nl [l.getD k 0] = 0 := by
      show (List.filter (· == 10) [l.getD k 0]).length = 0
      rw [List.filter_cons, h10]
      rfl
    omega
  · rw [List.take_of_length_le (by omega), List.take_of_length_le (by omega)]
theorem nl_take_le (l : List Int) (k : Nat) : nl (l.take k) ≤ k := Nat.le_trans (nl_le _) (List.length_take_le _ _)
theorem nl_all {l : List Int} {k : Nat} (h : l.length ≤ k) : nl (l.take k) = nl l := by rw [List.take_of_length_le h]

theorem ahead_any (l : List Int) (h : Chunky l) (i : Int) (w : World) : Calls Try.prog 32 #[cv l, .int .i64 i] w fun e w' => e = .returned (.int .i64 (nl (l.take i.toNat) : Nat)) ∧ Below w.heap.size w w' := by
  obtain ⟨h32, hr⟩ := h
  have hL := slots_len h32
  have HB := Lib.hid (show Below w.heap.size w (w.alloc (.cells (row (slots l)) 58)) from (Below.refl _ _).alloc (Nat.le_refl _) _)
  have R := Lib.hid (rowAt_new w 58 (slots l))
  have YES := Lib.hid (fun k => nl_yes (l := l) (k := k))
  have NO := Lib.hid (fun k => nl_no (l := l) (k := k))
  obtain ⟨m, hm, hm32, hfin⟩ : ∃ m : Nat, ((min i 32).toNat = m) ∧ m ≤ 32 ∧ nl (l.take m) = nl (l.take i.toNat) := by
    refine ⟨(min i 32).toNat, rfl, by omega, ?_⟩
    by_cases hi : i ≤ 32
    · rw [show min i 32 = i by omega]
    · rw [nl_all (k := (min i 32).toNat) (by omega), nl_all (k := i.toNat) (by omega)]
  rw [← hfin]
  clear hfin hr
  unfold cv
  go_enter Try.func32, Try.ntmps32
  go_wp2
  all_goals
    go_loop [5, 9] (fun s5 s9 => ∃ k : Nat, k ≤ m ∧ s9 = .int .i64 k ∧ s5 = .int .i64 (nl (l.take k) : Nat)) (fun _ s9 => 32 - (intOf s9).toNat)
    case atStart => exact ⟨0, Nat.zero_le _, rfl, rfl⟩
    case round =>
      obtain ⟨k, hk, rfl, rfl⟩ := hrel
      have hle := nl_take_le l k
      by_cases hlt : k < m
      · have i0 : (0 : Int) ≤ (k : Int) := by omega
        have i1 : (k : Int) < i := by omega
        have i2 : (k : Int) < 32 := by omega
        have hc := R.out.cell (j := k) (by omega)
        have y := Lib.hid (YES.out k)
        have n := Lib.hid (NO.out k)
        obtain ⟨x, hx⟩ : ∃ x, (slots l).getD k 0 = x := ⟨_, rfl⟩
        obtain ⟨c, hcn⟩ : ∃ c, nl (l.take k) = c := ⟨_, rfl⟩
        rw [hx] at hc y n
        rw [hcn] at y n hle ⊢
        clear hx R YES NO hm hcn HB
        by_cases hy : (x == 11) = true
        · have hz := y.out hy
          obtain ⟨d, hd⟩ : ∃ d, nl (l.take (k + 1)) = d := ⟨_, rfl⟩
          have HD := Lib.hid hd
          rw [hd] at hz
          subst hz
          clear hd
          go_wp2
          go_round
          case rel => exact ⟨k + 1, by omega, by go_num, by rw [HD.out]; rfl⟩
          case measure => simp [intOf]; omega
        · rw [Bool.not_eq_true] at hy
          have hz := n.out hy
          have HD := Lib.hid hz
          clear hz
          go_wp2
          go_round
          case rel => exact ⟨k + 1, by omega, by go_num, by rw [HD.out]⟩
          case measure => simp [intOf]; omega
      · obtain rfl : k = m := by omega
        clear R YES NO
        first
          | (have e1 : ¬ (k : Int) < i := by omega
             clear hm
             go_wp2)
          | (have e1 : ¬ (k : Int) < 32 := by omega
             clear hm
             go_wp2)
        go_ret
        exact ⟨rfl, HB.out⟩
end Go.Proofs.Ytjgfgpkaeddjhaa
