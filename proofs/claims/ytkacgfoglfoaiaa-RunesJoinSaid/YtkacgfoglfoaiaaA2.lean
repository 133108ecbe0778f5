import Derived.Test.YtkacgfoglfoaiaaB
namespace Go.Proofs.Ytkacgfoglfoaiaa
open Go.RowKit
set_option linter.unusedVariables false

def nl (xs : List Int) : Int := (xs.filter (· == 10)).length
theorem nl_le (xs : List Int) : 0 ≤ nl xs ∧ nl xs ≤ xs.length := by
  unfold nl
  have := List.length_filter_le (fun x : Int => x == 10) xs
  omega
theorem nl_snoc (xs : List Int) (x : Int) : nl (xs ++ [x]) = nl xs + if x = 10 then 1 else 0 := by
  unfold nl
  rw [List.filter_append]
  by_cases h : x = 10 <;> simp [h]
theorem take_snoc (xs : List Int) (j : Nat) (h : j < xs.length) : xs.take (j + 1) = xs.take j ++ [xs.getD j 0] := by
  rw [List.take_succ_eq_append_getElem h]; simp [List.getD, h]
theorem nl_take (xs : List Int) (j : Nat) (h : j < xs.length) : nl (xs.take (j + 1)) = nl (xs.take j) + if xs.getD j 0 = 10 then 1 else 0 := by
  rw [take_snoc xs j h, nl_snoc]

set_option maxHeartbeats 400000 in
theorem newlines_any (v : Value) (xs : List Int) (w : World) (hv : Ints .i32 w v xs) :
    Calls Try.prog 15 #[v] w fun e w' => e = .returned (.int .i64 (nl xs)) ∧ w = w' := by
  rcases hv with ⟨a, cap, rfl, rfl, hm, _⟩ | ⟨b, off, cap, rfl, h0, h1, hm, hc⟩
  · go_enter Try.func15, Try.ntmps15
    go_wp2
    refine wp_loop_rounds 1 ?_
    rw [rounds_succ]
    go_wp2
    go_ret
    exact ⟨rfl, rfl⟩
  · unfold maxLen at hm
    go_enter Try.func15, Try.ntmps15
    go_wp2
    go_loop [3, 8] (fun n i => ∃ k : Nat, k ≤ xs.length ∧ i = .int .i64 k ∧ n = .int .i64 (nl (xs.take k))) (fun _ i => xs.length - (intOf i).toNat)
    case atStart => exact ⟨0, Nat.zero_le _, rfl, by simp [nl]⟩
    case round =>
      obtain ⟨k, hk, rfl, rfl⟩ := hrel
      have hd := nl_le (xs.take k)
      have hl : (xs.take k).length ≤ k := List.length_take_le _ _
      by_cases hlt : k < xs.length
      · have hs := nl_take xs k hlt
        have HS := Lib.hid hs
        clear hs
        have hcx := hc k hlt
        clear hc
        go_wp2
        all_goals
          go_round
          case rel => exact ⟨k + 1, by omega, by go_num, by rw [HS.out]; simp_all⟩
          case measure => simp [intOf]; omega
      · go_wp2
        go_ret
        exact ⟨ret_int (by rw [List.take_of_length_le (by omega)]), rfl⟩
end Go.Proofs.Ytkacgfoglfoaiaa
