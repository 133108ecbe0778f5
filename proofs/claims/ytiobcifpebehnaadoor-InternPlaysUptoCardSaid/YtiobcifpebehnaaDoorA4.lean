
import Derived.Test.YtiobcifpebehnaaDoorA3
import Derived.Test.YtiobcifpebehnaaDoorS2
/- A4: the reference's Same, great, Rising -/
namespace Go.Proofs.YtiobcifpebehnaaDoor
open Go.RowKit
set_option linter.unusedVariables false

set_option maxRecDepth 100000 in
theorem rsame_any5 (v1 v2 : Value) (xs ys : List Att) (w : World) (h1 : Arow w v1 xs) (h2 : Arow w v2 ys) :
    Calls Tryd.prog 25 #[v1, v2] w fun e w' => e = .returned (.bool (decide (xs = ys))) ∧ ∃ q, w' = w.drewN q := by
  have hl1 := h1.len
  have hl2 := h2.len
  obtain ⟨a1, cap1, rfl⟩ := h1.shape
  obtain ⟨a2, cap2, rfl⟩ := h2.shape
  by_cases hl : xs.length = ys.length
  · by_cases h0 : 0 < xs.length
    · obtain ⟨b1, o1, rfl, -, -, -, -, hat1⟩ := Arow.opn h1 h0
      obtain ⟨b2, o2, rfl, -, -, -, -, hat2⟩ := Arow.opn h2 (by omega)
      clear h1 h2
      have H1 := Lib.hid hat1
      have H2 := Lib.hid hat2
      have HL := Lib.hid hl
      clear hat1 hat2
      rw [← hl]
      clear hl hl2
      go_enter Tryd.func25, Tryd.ntmps25
      go_wp2
      go_loopw [5] (fun i wr => ∃ k q : Nat, k ≤ xs.length ∧ i = .int .i64 k ∧ wr = w.drewN q ∧ Hid (xs.take k = ys.take k)) (fun i _ => xs.length - (intOf i).toNat)
      case atStart => exact ⟨0, 0, Nat.zero_le _, rfl, rfl, Lib.hid rfl⟩
      case round =>
        obtain ⟨k, q, hk, rfl, rfl, HP⟩ := hrel
        by_cases hlt : k < xs.length
        · have hlt2 : k < ys.length := by rw [← HL.out]; exact hlt
          obtain ⟨c0, c1, c2, c3, c4⟩ := H1.out k hlt
          obtain ⟨d0, d1, d2, d3, d4⟩ := H2.out k hlt2
          have hS := fun h => eq_step hlt hlt2 HP.out h
          have hE := fun h => eq_bad hlt hlt2 h
          have hD : aeq xs[k] ys[k] = decide (xs[k] = ys[k]) := aeq_dec _ _
          have hq := fun w => att_neq xs[k] ys[k] w
          generalize xs[k] = x at *
          generalize ys[k] = y at *
          by_cases hxy : x = y
          · have HS := Lib.hid (hS hxy)
            have e1 : aeq x y = true := by rw [hD]; simp [hxy]
            rw [e1] at hq
            obtain ⟨x1, x2, x3, x4, x5⟩ := x
            obtain ⟨y1, y2, y3, y4, y5⟩ := y
            clear hS hE hD e1 hxy
            simp only at c0 c1 c2 c3 c4 d0 d1 d2 d3 d4 hq
            go_wp2
            go_quiet (fail)
            go_wp2
            go_roundw
            case rel => exact ⟨k + 1, q + nq, by omega, by go_num, by simp, HS⟩
            case measure => simp [intOf]; omega
          · have HS := Lib.hid (hE hxy)
            have e1 : aeq x y = false := by rw [hD]; simp [hxy]
            rw [e1] at hq
            obtain ⟨x1, x2, x3, x4, x5⟩ := x
            obtain ⟨y1, y2, y3, y4, y5⟩ := y
            clear hS hE hD e1 hxy
            simp only at c0 c1 c2 c3 c4 d0 d1 d2 d3 d4 hq
            go_wp2
            go_quiet (fail)
            go_wp2
            go_ret
            exact ⟨dec_no HS.out, q + nq, by simp⟩
        · obtain rfl : k = xs.length := by omega
          have HE := Lib.hid (eq_end HL.out HP.out)
          clear HP
          go_wp2
          go_ret
          exact ⟨dec_yes HE.out, _, rfl⟩
    · obtain rfl : xs = [] := List.eq_nil_of_length_eq_zero (by omega)
      obtain rfl : ys = [] := List.eq_nil_of_length_eq_zero (by simpa using hl.symm)
      clear h1 h2 h0 hl hl1 hl2
      go_enter Tryd.func25, Tryd.ntmps25
      go_wp2
      refine wp_loop_rounds 1 ?_
      rw [rounds_succ]
      go_wp2
      go_ret
      exact ⟨rfl, 0, rfl⟩
  · have HN := Lib.hid (show ¬ xs = ys from fun h => hl (by rw [h]))
    have e1 : ((xs.length : Int) != (ys.length : Int)) = true := by simp; omega
    clear h1 h2
    go_enter Tryd.func25, Tryd.ntmps25
    go_wp2
    go_ret
    exact ⟨dec_no HN.out, 0, rfl⟩


/-- More than is looked at. -/
def great5 (xs : List Att) : Prop := (∃ a ∈ xs, 200 < a.s.size) ∨ 100 < xs.length
instance (xs : List Att) : Decidable (great5 xs) := by unfold great5; infer_instance
theorem great_at {xs : List Att} {k : Nat} (h : k < xs.length) (hs : 200 < xs[k].s.size) : great5 xs := .inl ⟨_, List.getElem_mem h, hs⟩
theorem great_step {xs : List Att} {k : Nat} (h : k < xs.length) (hp : ∀ a ∈ xs.take k, ¬ 200 < a.s.size) (hs : ¬ 200 < xs[k].s.size) : ∀ a ∈ xs.take (k + 1), ¬ 200 < a.s.size := by
  intro a ha
  rw [atake_snoc h] at ha
  rcases List.mem_append.1 ha with ha | ha
  · exact hp a ha
  · simp at ha; subst ha; exact hs
theorem great_end {xs : List Att} (hp : ∀ a ∈ xs.take xs.length, ¬ 200 < a.s.size) : decide (100 < (xs.length : Int)) = decide (great5 xs) := by
  rw [List.take_of_length_le (Nat.le_refl _)] at hp
  rw [decide_eq_decide]
  constructor
  · intro h; exact .inr (by omega)
  · rintro (⟨a, ha, h⟩ | h)
    · exact absurd h (hp a ha)
    · omega

/-- Keys rise. -/
def Rise (xs : List Att) : Prop := xs.Pairwise (fun a b => a.key < b.key)
instance (xs : List Att) : Decidable (Rise xs) := by unfold Rise; infer_instance
theorem rise_nil : Rise [] := List.Pairwise.nil
theorem rise_step {xs : List Att} {k : Nat} (h : k + 1 < xs.length) (hr : Rise (xs.take (k + 1))) (hl : xs[k].key < xs[k + 1].key) : Rise (xs.take (k + 1 + 1)) := by
  rw [atake_snoc h]
  refine List.pairwise_append.2 ⟨hr, by simp, fun a ha b hb => ?_⟩
  simp at hb
  subst hb
  rw [atake_snoc (by omega : k < xs.length)] at ha hr
  rcases List.mem_append.1 ha with ha | ha
  · have := (List.pairwise_append.1 hr).2.2 a ha xs[k] (by simp)
    omega
  · simp at ha; subst ha; exact hl
theorem rise_bad {xs : List Att} {k : Nat} (h : k + 1 < xs.length) (hl : ¬ xs[k].key < xs[k + 1].key) : ¬ Rise xs := fun hr =>
  hl (List.pairwise_iff_getElem.1 hr k (k + 1) (by omega) h (by omega))
theorem rise_end {xs : List Att} (hr : Rise (xs.take xs.length)) : Rise xs := by rwa [List.take_of_length_le (Nat.le_refl _)] at hr
theorem rise_one {xs : List Att} : Rise (xs.take (0 + 1)) := by
  cases xs with
  | nil => exact rise_nil
  | cons x r => simp [Rise]

set_option maxRecDepth 100000 in
theorem rising_any5 (v : Value) (xs : List Att) (w : World) (h1 : Arow w v xs) :
    Calls Tryd.prog 48 #[v] w fun e w' => e = .returned (.bool (decide (Rise xs))) ∧ ∃ q, w' = w.drewN q := by
  have hl1 := h1.len
  obtain ⟨a1, cap1, rfl⟩ := h1.shape
  by_cases h0 : 0 < xs.length
  · obtain ⟨b1, o1, rfl, -, -, -, -, hat1⟩ := Arow.opn h1 h0
    clear h1
    have H1 := Lib.hid hat1
    clear hat1
    go_enter Tryd.func48, Tryd.ntmps48
    go_wp2
    go_loopw [3] (fun i wr => ∃ k q : Nat, k + 1 ≤ xs.length ∧ i = .int .i64 ((k : Int) + 1) ∧ wr = w.drewN q ∧ Hid (Rise (xs.take (k + 1)))) (fun i _ => xs.length - (intOf i).toNat)
    case atStart => exact ⟨0, 0, h0, rfl, rfl, Lib.hid rise_one⟩
    case round =>
      obtain ⟨k, q, hk, rfl, rfl, HP⟩ := hrel
      by_cases hlt : k + 1 < xs.length
      · obtain ⟨c0, -, -, -, -⟩ := H1.out k (by omega)
        obtain ⟨d0, -, -, -, -⟩ := H1.out (k + 1) hlt
        have hS := fun h => rise_step hlt HP.out h
        have hB := fun h => rise_bad hlt h
        generalize xs[k].key = x at *
        generalize xs[k + 1].key = y at *
        by_cases hxy : x < y
        · have HS := Lib.hid (hS hxy)
          have e1 : decide (y ≤ x) = false := by rw [decide_eq_false_iff_not]; omega
          clear hS hB hxy
          go_wp2
          go_quiet (fail)
          go_wp2
          go_roundw
          case rel => exact ⟨k + 1, q + nq, by omega, by go_num, by simp, HS⟩
          case measure => simp [intOf]; omega
        · have HS := Lib.hid (hB hxy)
          have e1 : decide (y ≤ x) = true := by rw [decide_eq_true_iff]; omega
          clear hS hB hxy
          go_wp2
          go_quiet (fail)
          go_wp2
          go_ret
          exact ⟨dec_no HS.out, q + nq, by simp⟩
      · have hkk : xs.length = k + 1 := by omega
        have HE := Lib.hid (rise_end (by rw [hkk]; exact HP.out))
        clear HP
        go_wp2
        go_ret
        exact ⟨dec_yes HE.out, _, rfl⟩
  · obtain rfl : xs = [] := List.eq_nil_of_length_eq_zero (by omega)
    clear h1 h0 hl1
    go_enter Tryd.func48, Tryd.ntmps48
    go_wp2
    refine wp_loop_rounds 1 ?_
    rw [rounds_succ]
    go_wp2
    go_ret
    exact ⟨rfl, 0, rfl⟩
end Go.Proofs.YtiobcifpebehnaaDoor
