
import Derived.Test.YthbehjilabedoaaA2
import Derived.BigQuiet
import Derived.Deep.QuietTactic
/- A3: sets held against one another; great; rising -/
namespace Go.Proofs.Ythbehjilabedoaa
open Go.RowKit
set_option linter.unusedVariables false

theorem atake_snoc {xs : List Att} {k : Nat} (h : k < xs.length) : xs.take (k + 1) = xs.take k ++ [xs[k]] := by
  rw [List.take_succ_eq_append_getElem h]
theorem eq_step {xs ys : List Att} {k : Nat} (h1 : k < xs.length) (h2 : k < ys.length) (h : xs.take k = ys.take k) (he : xs[k] = ys[k]) : xs.take (k + 1) = ys.take (k + 1) := by
  rw [atake_snoc h1, atake_snoc h2, h, he]
theorem eq_end {xs ys : List Att} (hl : xs.length = ys.length) (h : xs.take xs.length = ys.take xs.length) : xs = ys := by
  rw [List.take_of_length_le (Nat.le_refl _), hl, List.take_of_length_le (Nat.le_refl _)] at h; exact h
theorem eq_bad {xs ys : List Att} {k : Nat} (h1 : k < xs.length) (h2 : k < ys.length) (he : ¬ xs[k] = ys[k]) : ¬ xs = ys := by
  intro h; subst h; exact he rfl
theorem dec_yes {p : Prop} [Decidable p] (h : p) : Ending.returned (.bool true) = .returned (.bool (decide p)) := by rw [decide_eq_true h]
theorem dec_no {p : Prop} [Decidable p] (h : ¬ p) : Ending.returned (.bool false) = .returned (.bool (decide p)) := by rw [decide_eq_false h]

set_option maxRecDepth 100000 in
theorem equal_any (v1 v2 : Value) (xs ys : List Att) (w : World) (h1 : Arow w v1 xs) (h2 : Arow w v2 ys) :
    Calls Try.prog 31 #[v1, v2] w fun e w' => e = .returned (.bool (decide (xs = ys))) ∧ ∃ q, w' = w.drewN q := by
  have hl1 := h1.len
  have hl2 := h2.len
  obtain ⟨a1, cap1, rfl⟩ := h1.shape
  obtain ⟨a2, cap2, rfl⟩ := h2.shape
  by_cases hl : xs.length = ys.length
  · by_cases h0 : 0 < xs.length
    · obtain ⟨b1, o1, rfl, -, -, -, -, hat1⟩ := Arow.opn h1 h0
      obtain ⟨b2, o2, rfl, -, -, -, -, hat2⟩ := Arow.opn h2 (by omega)
      clear h1 h2
      have H1 := Lib.hid hat1
      have H2 := Lib.hid hat2
      have HL := Lib.hid hl
      clear hat1 hat2
      rw [← hl]
      clear hl hl2
      go_enter Try.func31, Try.ntmps31
      go_wp2
      go_loopw [13] (fun i wr => ∃ k q : Nat, k ≤ xs.length ∧ i = .int .i64 k ∧ wr = w.drewN q ∧ Hid (xs.take k = ys.take k)) (fun i _ => xs.length - (intOf i).toNat)
      case atStart => exact ⟨0, 0, Nat.zero_le _, rfl, rfl, Lib.hid rfl⟩
      case round =>
        obtain ⟨k, q, hk, rfl, rfl, HP⟩ := hrel
        by_cases hlt : k < xs.length
        · have hlt2 : k < ys.length := by rw [← HL.out]; exact hlt
          obtain ⟨c0, c1, c2, c3, c4⟩ := H1.out k hlt
          obtain ⟨d0, d1, d2, d3, d4⟩ := H2.out k hlt2
          have hS := fun h => eq_step hlt hlt2 HP.out h
          have hE := fun h => eq_bad hlt hlt2 h
          have hD : aeq xs[k] ys[k] = decide (xs[k] = ys[k]) := aeq_dec _ _
          have hq := fun w => att_neq xs[k] ys[k] w
          generalize xs[k] = x at *
          generalize ys[k] = y at *
          by_cases hxy : x = y
          · have HS := Lib.hid (hS hxy)
            have e1 : aeq x y = true := by rw [hD]; simp [hxy]
            rw [e1] at hq
            obtain ⟨x1, x2, x3, x4, x5⟩ := x
            obtain ⟨y1, y2, y3, y4, y5⟩ := y
            clear hS hE hD e1 hxy
            simp only at c0 c1 c2 c3 c4 d0 d1 d2 d3 d4 hq
            go_wp2
            go_quiet (fail)
            go_wp2
            go_roundw
            case rel => exact ⟨k + 1, q + nq, by omega, by go_num, by simp, HS⟩
            case measure => simp [intOf]; omega
          · have HS := Lib.hid (hE hxy)
            have e1 : aeq x y = false := by rw [hD]; simp [hxy]
            rw [e1] at hq
            obtain ⟨x1, x2, x3, x4, x5⟩ := x
            obtain ⟨y1, y2, y3, y4, y5⟩ := y
            clear hS hE hD e1 hxy
            simp only at c0 c1 c2 c3 c4 d0 d1 d2 d3 d4 hq
            go_wp2
            go_quiet (fail)
            go_wp2
            go_ret
            exact ⟨dec_no HS.out, q + nq, by simp⟩
        · obtain rfl : k = xs.length := by omega
          have HE := Lib.hid (eq_end HL.out HP.out)
          clear HP
          go_wp2
          go_ret
          exact ⟨dec_yes HE.out, _, rfl⟩
    · obtain rfl : xs = [] := List.eq_nil_of_length_eq_zero (by omega)
      obtain rfl : ys = [] := List.eq_nil_of_length_eq_zero (by simpa using hl.symm)
      clear h1 h2 h0 hl hl1 hl2
      go_enter Try.func31, Try.ntmps31
      go_wp2
      refine wp_loop_rounds 1 ?_
      rw [rounds_succ]
      go_wp2
      go_ret
      exact ⟨rfl, 0, rfl⟩
  · have HN := Lib.hid (show ¬ xs = ys from fun h => hl (by rw [h]))
    have e1 : ((xs.length : Int) != (ys.length : Int)) = true := by simp; omega
    clear h1 h2
    go_enter Try.func31, Try.ntmps31
    go_wp2
    go_ret
    exact ⟨dec_no HN.out, 0, rfl⟩

theorem same_any5 (v1 v2 : Value) (xs ys : List Att) (w : World) (h1 : Arow w v1 xs) (h2 : Arow w v2 ys) :
    Calls Try.prog 14 #[v1, v2] w fun e w' => e = .returned (.bool (decide (xs = ys))) ∧ Below w.heap.size w w' := by
  have HE := Lib.hid (equal_any v1 v2 xs ys w h1 h2)
  clear h1 h2
  go_enter Try.func14, Try.ntmps14
  go_wp2_with (go_at_call 31; ((with_reducible refine HE.out.mono ?_); rintro e w1 ⟨rfl, q, rfl⟩))
  go_ret
  exact ⟨rfl, blw_drewN (Below.refl _ _) q⟩
end Go.Proofs.Ythbehjilabedoaa
