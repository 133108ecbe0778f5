import Derived.Test.YtkacgfoglfoaiaaA2
namespace Go.Proofs.Ytkacgfoglfoaiaa
open Go.RowKit
set_option linter.unusedVariables false

set_option maxHeartbeats 400000 in
theorem rnewlines_any (v : Value) (xs : List Int) (w : World) (hv : Ints .i32 w v xs) :
    Calls Try.prog 16 #[v] w fun e w' => e = .returned (.int .i64 (nl xs)) ∧ w = w' := by
  rcases hv with ⟨a, cap, rfl, rfl, hm, _⟩ | ⟨b, off, cap, rfl, h0, h1, hm, hc⟩
  · go_enter Try.func16, Try.ntmps16
    go_wp2
    refine wp_loop_rounds 1 ?_
    rw [rounds_succ]
    go_wp2
    go_ret
    exact ⟨rfl, rfl⟩
  · unfold maxLen at hm
    go_enter Try.func16, Try.ntmps16
    go_wp2
    go_loop [3, 4] (fun n i => ∃ k : Nat, k ≤ xs.length ∧ i = .int .i64 k ∧ n = .int .i64 (nl (xs.take k))) (fun _ i => xs.length - (intOf i).toNat)
    case atStart => exact ⟨0, Nat.zero_le _, rfl, by simp [nl]⟩
    case round =>
      obtain ⟨k, hk, rfl, rfl⟩ := hrel
      have hd := nl_le (xs.take k)
      have hl : (xs.take k).length ≤ k := List.length_take_le _ _
      by_cases hlt : k < xs.length
      · have hs := nl_take xs k hlt
        have HS := Lib.hid hs
        clear hs
        have hcx := hc k hlt
        clear hc
        go_wp2
        all_goals
          go_round
          case rel => exact ⟨k + 1, by omega, by go_num, by rw [HS.out]; simp_all⟩
          case measure => simp [intOf]; omega
      · go_wp2
        go_ret
        exact ⟨ret_int (by rw [List.take_of_length_le (by omega)]), rfl⟩

theorem Ints.shape {k : IntKind} {w : World} {v : Value} {xs : List Int} (h : Ints k w v xs) : ∃ a cap, v = .slice a xs.length cap := by
  rcases h with ⟨a, cap, rfl, rfl, hm, _⟩ | ⟨b, off, cap, rfl, h0, h1, hm, hc⟩
  · exact ⟨a, cap, rfl⟩
  · exact ⟨_, _, rfl⟩

def sameB (xs ys : List Int) : Bool := decide (xs = ys)

theorem same_ne (xs ys : List Int) (k : Nat) (h1 : k < xs.length) (h2 : k < ys.length) (h : xs.getD k 0 ≠ ys.getD k 0) : sameB xs ys = false := by
  unfold sameB
  rw [decide_eq_false_iff_not]
  rintro rfl
  exact h rfl
theorem same_eq (xs ys : List Int) (h1 : xs.length = ys.length) (h : xs.take xs.length = ys.take xs.length) : sameB xs ys = true := by
  unfold sameB
  rw [decide_eq_true_iff]
  rw [List.take_of_length_le (Nat.le_refl _), h1, List.take_of_length_le (Nat.le_refl _)] at h
  exact h

set_option maxHeartbeats 400000 in
theorem same_any (v1 v2 : Value) (xs ys : List Int) (w : World) (hv1 : Ints .i32 w v1 xs) (hv2 : Ints .i32 w v2 ys) :
    Calls Try.prog 12 #[v1, v2] w fun e w' => e = .returned (.bool (sameB xs ys)) ∧ ∃ n, w' = w.drewN n := by
  have l1 := hv1.len
  have l2 := hv2.len
  by_cases hlen : xs.length = ys.length
  · rcases hv1 with ⟨a, cap, rfl, rfl, hm, _⟩ | ⟨b, off, cap, rfl, h0, h1, hm, hc⟩
    · obtain rfl : ys = [] := List.eq_nil_of_length_eq_zero hlen.symm
      obtain ⟨a2, cap2, rfl⟩ := hv2.shape
      clear hv2 hlen l1 l2
      go_enter Try.func12, Try.ntmps12
      go_wp2
      refine wp_loop_rounds 1 ?_
      rw [rounds_succ]
      go_wp2
      go_ret
      exact ⟨rfl, 0, rfl⟩
    · rcases hv2 with ⟨a, cap2, rfl, rfl, hm2, _⟩ | ⟨b2, off2, cap2, rfl, h02, h12, hm2, hc2⟩
      · simp at hlen; subst hlen; simp at h0
      · have hq : ((xs.length : Int) == ys.length) = true := by rw [hlen]; simp
        have hq2 : ((xs.length : Int) != ys.length) = false := by rw [hlen]; simp
        have HL := Lib.hid hlen
        have hle : xs.length ≤ ys.length := by omega
        unfold maxLen at hm hm2
        clear hlen
        go_enter Try.func12, Try.ntmps12
        go_wp2
        go_loopw [5] (fun i wr => ∃ k n : Nat, k ≤ xs.length ∧ i = .int .i64 k ∧ Hid (xs.take k = ys.take k) ∧ wr = w.drewN n) (fun i _ => xs.length - (intOf i).toNat)
        case atStart => exact ⟨0, 0, Nat.zero_le _, rfl, by simp [Hid], rfl⟩
        case round =>
          obtain ⟨k, n, hk, rfl, ht, rfl⟩ := hrel
          by_cases hlt : k < xs.length
          · have hcx := hc k hlt
            have hcy := hc2 k (by omega)
            clear hc hc2
            have HK : xs.getD k 0 = ys.getD k 0 → Hid (xs.take (k + 1) = ys.take (k + 1)) := fun he => by
              show xs.take (k + 1) = ys.take (k + 1)
              rw [take_snoc xs k hlt, take_snoc ys k (by omega), ht.out, he]
            have HF := same_ne xs ys k hlt (by omega)
            generalize xs.getD k 0 = x at hcx HK HF
            generalize ys.getD k 0 = y at hcy HK HF
            by_cases he : x = y
            · have HT := HK he
              have hq3 : (x != y) = false := by simp [he]
              have hq4 : (x == y) = true := by simp [he]
              clear HK HF he ht
              go_wp2
              go_quiet (fail)
              go_wp2
              go_roundw
              case rel => exact ⟨k + 1, n + nq, by omega, by go_num, HT, rfl⟩
              case measure => simp [intOf]; omega
            · have HT := Lib.hid (HF he)
              have hq3 : (x != y) = true := by simp [he]
              have hq4 : (x == y) = false := by simp [he]
              clear HK HF he ht
              go_wp2
              go_quiet (fail)
              go_wp2
              go_ret
              exact ⟨ret_bool HT.out.symm, n + nq, World.drewN_drewN _ _ _⟩
          · go_wp2
            go_ret
            exact ⟨ret_bool (same_eq xs ys HL.out (by obtain rfl : k = xs.length := by omega
                                                      exact ht.out)).symm, n, rfl⟩
  · have hq : ((xs.length : Int) == ys.length) = false := by simp; omega
    have hq2 : ((xs.length : Int) != ys.length) = true := by simp; omega
    have hf : sameB xs ys = false := by unfold sameB; rw [decide_eq_false_iff_not]; rintro rfl; exact hlen rfl
    obtain ⟨a1, cap1, rfl⟩ := hv1.shape
    obtain ⟨a2, cap2, rfl⟩ := hv2.shape
    rw [hf]
    clear hf hv1 hv2
    go_enter Try.func12, Try.ntmps12
    go_wp2
    go_ret
    exact ⟨rfl, 0, rfl⟩
end Go.Proofs.Ytkacgfoglfoaiaa
