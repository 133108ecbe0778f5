
import Derived.Test.YtkejebjppnhidaaC5
import Derived.Laws.Cover3
/- C6: patches held against one another; rising; Clone, Copy -/
namespace Go.Proofs.Ytkejebjppnhidaa
open Go.RowKit
set_option linter.unusedVariables false

theorem ceq_step {xs ys : List Chg} {k : Nat} (h1 : k < xs.length) (h2 : k < ys.length) (h : xs.take k = ys.take k) (he : xs[k] = ys[k]) : xs.take (k + 1) = ys.take (k + 1) := by
  rw [tsnoc h1, tsnoc h2, h, he]
theorem ceq_end {xs ys : List Chg} (hl : xs.length = ys.length) (h : xs.take xs.length = ys.take xs.length) : xs = ys := by
  rw [List.take_of_length_le (Nat.le_refl _), hl, List.take_of_length_le (Nat.le_refl _)] at h; exact h
theorem ceq_bad {xs ys : List Chg} {k : Nat} (h1 : k < xs.length) (h2 : k < ys.length) (he : ¬ xs[k] = ys[k]) : ¬ xs = ys := by
  intro h; subst h; exact he rfl

set_option maxRecDepth 100000 in
theorem cequal_any (v1 v2 : Value) (xs ys : List Chg) (w : World) (h1 : Crow w v1 xs) (h2 : Crow w v2 ys) :
    Calls Try.prog 40 #[v1, v2] w fun e w' => e = .returned (.bool (decide (xs = ys))) ∧ ∃ q, w' = w.drewN q := by
  have hl1 := h1.len
  have hl2 := h2.len
  obtain ⟨a1, cap1, rfl⟩ := h1.shape
  obtain ⟨a2, cap2, rfl⟩ := h2.shape
  by_cases hl : xs.length = ys.length
  · by_cases h0 : 0 < xs.length
    · obtain ⟨b1, o1, rfl, -, -, -, -, hat1⟩ := Crow.opn h1 h0
      obtain ⟨b2, o2, rfl, -, -, -, -, hat2⟩ := Crow.opn h2 (by omega)
      clear h1 h2
      have H1 := Lib.hid hat1
      have H2 := Lib.hid hat2
      have HL := Lib.hid hl
      clear hat1 hat2
      rw [← hl]
      clear hl hl2
      go_enter Try.func40, Try.ntmps40
      go_wp2
      go_loopw [13] (fun i wr => ∃ k q : Nat, k ≤ xs.length ∧ i = .int .i64 k ∧ wr = w.drewN q ∧ Hid (xs.take k = ys.take k)) (fun i _ => xs.length - (intOf i).toNat)
      case atStart => exact ⟨0, 0, Nat.zero_le _, rfl, rfl, Lib.hid rfl⟩
      case round =>
        obtain ⟨k, q, hk, rfl, rfl, HP⟩ := hrel
        by_cases hlt : k < xs.length
        · have hlt2 : k < ys.length := by rw [← HL.out]; exact hlt
          obtain ⟨c0, c1, c2, c3, c4, c5⟩ := H1.out k hlt
          obtain ⟨d0, d1, d2, d3, d4, d5⟩ := H2.out k hlt2
          have hS := fun h => ceq_step hlt hlt2 HP.out h
          have hE := fun h => ceq_bad hlt hlt2 h
          have hD : ceq xs[k] ys[k] = decide (xs[k] = ys[k]) := ceq_dec _ _
          have hq := fun w => chg_neq xs[k] ys[k] w
          generalize xs[k] = x at *
          generalize ys[k] = y at *
          by_cases hxy : x = y
          · have HS := Lib.hid (hS hxy)
            have e1 : ceq x y = true := by rw [hD]; simp [hxy]
            rw [e1] at hq
            obtain ⟨x1, x0, x2, x3, x4, x5⟩ := x
            obtain ⟨y1, y0, y2, y3, y4, y5⟩ := y
            clear hS hE hD e1 hxy
            simp only at c0 c1 c2 c3 c4 c5 d0 d1 d2 d3 d4 d5 hq
            go_wp2
            go_quiet (fail)
            go_wp2
            go_roundw
            case rel => exact ⟨k + 1, q + nq, by omega, by go_num, by simp, HS⟩
            case measure => simp [intOf]; omega
          · have HS := Lib.hid (hE hxy)
            have e1 : ceq x y = false := by rw [hD]; simp [hxy]
            rw [e1] at hq
            obtain ⟨x1, x0, x2, x3, x4, x5⟩ := x
            obtain ⟨y1, y0, y2, y3, y4, y5⟩ := y
            clear hS hE hD e1 hxy
            simp only at c0 c1 c2 c3 c4 c5 d0 d1 d2 d3 d4 d5 hq
            go_wp2
            go_quiet (fail)
            go_wp2
            go_ret
            exact ⟨dec_no HS.out, q + nq, by simp⟩
        · obtain rfl : k = xs.length := by omega
          have HE := Lib.hid (ceq_end HL.out HP.out)
          clear HP
          go_wp2
          go_ret
          exact ⟨dec_yes HE.out, _, rfl⟩
    · obtain rfl : xs = [] := List.eq_nil_of_length_eq_zero (by omega)
      obtain rfl : ys = [] := List.eq_nil_of_length_eq_zero (by simpa using hl.symm)
      clear h1 h2 h0 hl hl1 hl2
      go_enter Try.func40, Try.ntmps40
      go_wp2
      refine wp_loop_rounds 1 ?_
      rw [rounds_succ]
      go_wp2
      go_ret
      exact ⟨rfl, 0, rfl⟩
  · have HN := Lib.hid (show ¬ xs = ys from fun h => hl (by rw [h]))
    have e1 : ((xs.length : Int) != (ys.length : Int)) = true := by simp; omega
    clear h1 h2
    go_enter Try.func40, Try.ntmps40
    go_wp2
    go_ret
    exact ⟨dec_no HN.out, 0, rfl⟩

theorem same_any6 (v1 v2 : Value) (xs ys : List Chg) (w : World) (h1 : Crow w v1 xs) (h2 : Crow w v2 ys) :
    Calls Try.prog 15 #[v1, v2] w fun e w' => e = .returned (.bool (decide (xs = ys))) ∧ Below w.heap.size w w' := by
  have HE := Lib.hid (cequal_any v1 v2 xs ys w h1 h2)
  clear h1 h2
  go_enter Try.func15, Try.ntmps15
  go_wp2_with (go_at_call 40; ((with_reducible refine HE.out.mono ?_); rintro e w1 ⟨rfl, q, rfl⟩))
  go_ret
  exact ⟨rfl, blw_drewN (Below.refl _ _) q⟩
set_option maxRecDepth 100000 in
theorem rsame_any6 (v1 v2 : Value) (xs ys : List Chg) (w : World) (h1 : Crow w v1 xs) (h2 : Crow w v2 ys) :
    Calls Try.prog 16 #[v1, v2] w fun e w' => e = .returned (.bool (decide (xs = ys))) ∧ ∃ q, w' = w.drewN q := by
  have hl1 := h1.len
  have hl2 := h2.len
  obtain ⟨a1, cap1, rfl⟩ := h1.shape
  obtain ⟨a2, cap2, rfl⟩ := h2.shape
  by_cases hl : xs.length = ys.length
  · by_cases h0 : 0 < xs.length
    · obtain ⟨b1, o1, rfl, -, -, -, -, hat1⟩ := Crow.opn h1 h0
      obtain ⟨b2, o2, rfl, -, -, -, -, hat2⟩ := Crow.opn h2 (by omega)
      clear h1 h2
      have H1 := Lib.hid hat1
      have H2 := Lib.hid hat2
      have HL := Lib.hid hl
      clear hat1 hat2
      rw [← hl]
      clear hl hl2
      go_enter Try.func16, Try.ntmps16
      go_wp2
      go_loopw [5] (fun i wr => ∃ k q : Nat, k ≤ xs.length ∧ i = .int .i64 k ∧ wr = w.drewN q ∧ Hid (xs.take k = ys.take k)) (fun i _ => xs.length - (intOf i).toNat)
      case atStart => exact ⟨0, 0, Nat.zero_le _, rfl, rfl, Lib.hid rfl⟩
      case round =>
        obtain ⟨k, q, hk, rfl, rfl, HP⟩ := hrel
        by_cases hlt : k < xs.length
        · have hlt2 : k < ys.length := by rw [← HL.out]; exact hlt
          obtain ⟨c0, c1, c2, c3, c4, c5⟩ := H1.out k hlt
          obtain ⟨d0, d1, d2, d3, d4, d5⟩ := H2.out k hlt2
          have hS := fun h => ceq_step hlt hlt2 HP.out h
          have hE := fun h => ceq_bad hlt hlt2 h
          have hD : ceq xs[k] ys[k] = decide (xs[k] = ys[k]) := ceq_dec _ _
          have hq := fun w => chg_neq xs[k] ys[k] w
          generalize xs[k] = x at *
          generalize ys[k] = y at *
          by_cases hxy : x = y
          · have HS := Lib.hid (hS hxy)
            have e1 : ceq x y = true := by rw [hD]; simp [hxy]
            rw [e1] at hq
            obtain ⟨x1, x0, x2, x3, x4, x5⟩ := x
            obtain ⟨y1, y0, y2, y3, y4, y5⟩ := y
            clear hS hE hD e1 hxy
            simp only at c0 c1 c2 c3 c4 c5 d0 d1 d2 d3 d4 d5 hq
            go_wp2
            go_quiet (fail)
            go_wp2
            go_roundw
            case rel => exact ⟨k + 1, q + nq, by omega, by go_num, by simp, HS⟩
            case measure => simp [intOf]; omega
          · have HS := Lib.hid (hE hxy)
            have e1 : ceq x y = false := by rw [hD]; simp [hxy]
            rw [e1] at hq
            obtain ⟨x1, x0, x2, x3, x4, x5⟩ := x
            obtain ⟨y1, y0, y2, y3, y4, y5⟩ := y
            clear hS hE hD e1 hxy
            simp only at c0 c1 c2 c3 c4 c5 d0 d1 d2 d3 d4 d5 hq
            go_wp2
            go_quiet (fail)
            go_wp2
            go_ret
            exact ⟨dec_no HS.out, q + nq, by simp⟩
        · obtain rfl : k = xs.length := by omega
          have HE := Lib.hid (ceq_end HL.out HP.out)
          clear HP
          go_wp2
          go_ret
          exact ⟨dec_yes HE.out, _, rfl⟩
    · obtain rfl : xs = [] := List.eq_nil_of_length_eq_zero (by omega)
      obtain rfl : ys = [] := List.eq_nil_of_length_eq_zero (by simpa using hl.symm)
      clear h1 h2 h0 hl hl1 hl2
      go_enter Try.func16, Try.ntmps16
      go_wp2
      refine wp_loop_rounds 1 ?_
      rw [rounds_succ]
      go_wp2
      go_ret
      exact ⟨rfl, 0, rfl⟩
  · have HN := Lib.hid (show ¬ xs = ys from fun h => hl (by rw [h]))
    have e1 : ((xs.length : Int) != (ys.length : Int)) = true := by simp; omega
    clear h1 h2
    go_enter Try.func16, Try.ntmps16
    go_wp2
    go_ret
    exact ⟨dec_no HN.out, 0, rfl⟩


/-- Keys rise. -/
def RiseC (xs : List Chg) : Prop := xs.Pairwise (fun a b => a.key < b.key)
instance (xs : List Chg) : Decidable (RiseC xs) := by unfold RiseC; infer_instance
theorem crise_nil : RiseC [] := List.Pairwise.nil
theorem crise_step {xs : List Chg} {k : Nat} (h : k + 1 < xs.length) (hr : RiseC (xs.take (k + 1))) (hl : xs[k].key < xs[k + 1].key) : RiseC (xs.take (k + 1 + 1)) := by
  rw [tsnoc h]
  refine List.pairwise_append.2 ⟨hr, by simp, fun a ha b hb => ?_⟩
  simp at hb
  subst hb
  rw [tsnoc (by omega : k < xs.length)] at ha hr
  rcases List.mem_append.1 ha with ha | ha
  · have := (List.pairwise_append.1 hr).2.2 a ha xs[k] (by simp)
    omega
  · simp at ha; subst ha; exact hl
theorem crise_bad {xs : List Chg} {k : Nat} (h : k + 1 < xs.length) (hl : ¬ xs[k].key < xs[k + 1].key) : ¬ RiseC xs := fun hr =>
  hl (List.pairwise_iff_getElem.1 hr k (k + 1) (by omega) h (by omega))
theorem crise_end {xs : List Chg} (hr : RiseC (xs.take xs.length)) : RiseC xs := by rwa [List.take_of_length_le (Nat.le_refl _)] at hr
theorem crise_one {xs : List Chg} : RiseC (xs.take (0 + 1)) := by
  cases xs with
  | nil => exact crise_nil
  | cons x r => simp [RiseC]

set_option maxRecDepth 100000 in
theorem rising_any6 (v : Value) (xs : List Chg) (w : World) (h1 : Crow w v xs) :
    Calls Try.prog 19 #[v] w fun e w' => e = .returned (.bool (decide (RiseC xs))) ∧ ∃ q, w' = w.drewN q := by
  have hl1 := h1.len
  obtain ⟨a1, cap1, rfl⟩ := h1.shape
  by_cases h0 : 0 < xs.length
  · obtain ⟨b1, o1, rfl, -, -, -, -, hat1⟩ := Crow.opn h1 h0
    clear h1
    have H1 := Lib.hid hat1
    clear hat1
    go_enter Try.func19, Try.ntmps19
    go_wp2
    go_loopw [3] (fun i wr => ∃ k q : Nat, k + 1 ≤ xs.length ∧ i = .int .i64 ((k : Int) + 1) ∧ wr = w.drewN q ∧ Hid (RiseC (xs.take (k + 1)))) (fun i _ => xs.length - (intOf i).toNat)
    case atStart => exact ⟨0, 0, h0, rfl, rfl, Lib.hid crise_one⟩
    case round =>
      obtain ⟨k, q, hk, rfl, rfl, HP⟩ := hrel
      by_cases hlt : k + 1 < xs.length
      · obtain ⟨c0, -, -, -, -, -⟩ := H1.out k (by omega)
        obtain ⟨d0, -, -, -, -, -⟩ := H1.out (k + 1) hlt
        have hS := fun h => crise_step hlt HP.out h
        have hB := fun h => crise_bad hlt h
        generalize xs[k].key = x at *
        generalize xs[k + 1].key = y at *
        by_cases hxy : x < y
        · have HS := Lib.hid (hS hxy)
          have e1 : decide (y ≤ x) = false := by rw [decide_eq_false_iff_not]; omega
          clear hS hB hxy
          go_wp2
          go_quiet (fail)
          go_wp2
          go_roundw
          case rel => exact ⟨k + 1, q + nq, by omega, by go_num, by simp, HS⟩
          case measure => simp [intOf]; omega
        · have HS := Lib.hid (hB hxy)
          have e1 : decide (y ≤ x) = true := by rw [decide_eq_true_iff]; omega
          clear hS hB hxy
          go_wp2
          go_quiet (fail)
          go_wp2
          go_ret
          exact ⟨dec_no HS.out, q + nq, by simp⟩
      · have hkk : xs.length = k + 1 := by omega
        have HE := Lib.hid (crise_end (by rw [hkk]; exact HP.out))
        clear HP
        go_wp2
        go_ret
        exact ⟨dec_yes HE.out, _, rfl⟩
  · obtain rfl : xs = [] := List.eq_nil_of_length_eq_zero (by omega)
    clear h1 h0 hl1
    go_enter Try.func19, Try.ntmps19
    go_wp2
    refine wp_loop_rounds 1 ?_
    rw [rounds_succ]
    go_wp2
    go_ret
    exact ⟨rfl, 0, rfl⟩
theorem own6_nil (w0 w : World) : Own6 w0 w (.slice none 0 0) [] := World.ownsRow_nil _ _ _ _
theorem cnil_eql (a : Option Addr) (l c : Nat) (w : World) : (binOp .eql 23 (.slice a l c) (.slice none 0 0)).run Try.prog w = .ok (.bool a.isNone) w := by
  simp only [binOp, Sem.run_bind, run_equal_slice_nil w 23 52 a l c Try.underlying23, Result.andThen_ok, Sem.run_pure]

set_option maxRecDepth 100000 in
theorem clone_any6 (v : Value) (xs : List Chg) (w : World) (hv : Crow w v xs) (hl : xs.length * 56 ≤ 140737488355328) :
    Calls Try.prog 41 #[v] w fun e w' => ∃ u, e = .returned u ∧ Own6 w w' u xs ∧ Below w.heap.size w w' := by
  obtain ⟨i0, hi, hz0, hz1, hz2⟩ := info_ch
  have HV := Lib.hid hv
  have hnil := fun a l c w => cnil_eql a l c w
  obtain ⟨a, cap, rfl⟩ := hv.shape
  cases a with
  | none =>
    obtain ⟨rfl, rfl⟩ : xs = [] ∧ cap = 0 := by
      rcases hv with ⟨_, _, h, hx, _, h0⟩ | ⟨_, _, _, h, _⟩
      · injection h with h1 _ h3; subst hx; exact ⟨rfl, by rw [h3]; exact h0 h1.symm⟩
      · injection h with h1; cases h1
    clear hv HV
    go_enter Try.func41, Try.ntmps41
    go_wp2
    go_ret
    exact ⟨_, rfl, own6_nil _ _, Below.refl _ _⟩
  | some a =>
    clear hv
    have hB := (Below.refl w.heap.size w).alloc (Nat.le_refl _) (.cells #[] 52)
    go_enter Try.func41, Try.ntmps41
    go_wp2_with (at_builtin; refine wpList_append_row (C := chC) rfl (.tmp 5) (.tmp 6) 23 rfl w.heap.size 52 i0 (cv noChg) 56 Try.underlying23 hi hz0 hz1 hz2 rfl _ 0 [] rfl (owns_none w 52 6) _ xs rfl (HV.out.below hB (Nat.le_refl _)) (by unfold maxLen; omega) (by omega) (by simp) ?_; intro v3 w3 hown3 hgrow3)
    go_ret
    refine ⟨_, rfl, ?_, hB.grown hgrow3 (by simp) (fun j hj => own_base (owns_none w 52 6) hj)⟩
    have h : w3.ownsRow w.heap.size 52 chC.m v3 (0 + xs.length) ([] ++ fl chC xs) := hown3
    rw [Nat.zero_add, List.nil_append] at h
    exact h

/-- Copy: the same, in memory of the call's own. -/
theorem copy_any6 (v : Value) (xs : List Chg) (w : World) (hv : Crow w v xs) (hl : xs.length * 56 ≤ 140737488355328) :
    Calls Try.prog 17 #[v] w fun e w' => ∃ u, e = .returned u ∧ Own6 w w' u xs ∧ Below w.heap.size w w' := by
  have HC := Lib.hid (clone_any6 v xs w hv hl)
  clear hv
  go_enter Try.func17, Try.ntmps17
  go_wp2_with (go_at_call 41; refine HC.out.mono ?_; rintro e w1 ⟨u, rfl, HR⟩)
  go_ret
  exact ⟨u, rfl, HR⟩
end Go.Proofs.Ytkejebjppnhidaa
