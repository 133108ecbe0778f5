
import Derived.Test.YtiobcifpebehnaaDoorS6
import Derived.BigQuiet
/- S13: the reference's May -/
namespace Go.Proofs.YtiobcifpebehnaaDoor
open Go.RowKit
set_option linter.unusedVariables false

/-- Whether keys may be, told by a bool. -/
def MayPost (ks : List Key) (w : World) (e : Ending) (w' : World) : Prop :=
  Below w.heap.size w w' ∧ ∃ b : Bool, e = .returned (.bool b) ∧ (b = true ↔ mayKs ks)
theorem rmay_bad {ks : List Key} {w w' : World} (hb : Below w.heap.size w w') (h : ¬ mayKs ks) : MayPost ks w (.returned (.bool false)) w' := ⟨hb, false, rfl, by simp [h]⟩
theorem rmay_good {ks : List Key} {w w' : World} (hb : Below w.heap.size w w') (h : mayKs ks) : MayPost ks w (.returned (.bool true)) w' := ⟨hb, true, rfl, by simp [h]⟩
theorem fnd_none_of {ks : List Key} {j : Nat} {id : Int} (hj : j ≤ ks.length) (h : ∀ t (ht : t < ks.length), t < j → ks[t].id ≠ id) : fnd (ks.take j) id = none := by
  refine fnd_none.2 fun k hk => ?_
  obtain ⟨t, ht, rfl⟩ := List.getElem_of_mem hk
  rw [List.length_take] at ht
  rw [List.getElem_take]
  exact h t (by omega) (by omega)
theorem fnd_is_some {ks : List Key} {j t : Nat} {id : Int} (ht : t < ks.length) (hj : t < j) (h : ks[t].id = id) : (fnd (ks.take j) id).isSome = true := by
  cases hf : fnd (ks.take j) id with
  | some k => rfl
  | none =>
    refine absurd h (fnd_none.1 hf _ ?_)
    rw [List.mem_take_iff_getElem]
    exact ⟨t, by omega, rfl⟩

theorem rmay_long (v : Value) (ks : List Key) (w : World) (hv : Krow w v ks) (hl : 64 < ks.length) :
    Calls Tryd.prog 10 #[v] w (MayPost ks w) := by
  have hb := hv.len
  obtain ⟨a, cap, rfl⟩ := hv.shape
  clear hv
  have hn : ¬ mayKs ks := fun h => by have := h.1; omega
  have hn := Lib.hid hn
  go_enter Tryd.func10, Tryd.ntmps10
  go_wp2
  go_ret
  exact rmay_bad (Below.refl _ _) hn.out

theorem rmay_none (v : Value) (w : World) (hv : Krow w v []) :
    Calls Tryd.prog 10 #[v] w (MayPost [] w) := by
  obtain ⟨a, cap, rfl⟩ := hv.shape
  clear hv
  go_enter Tryd.func10, Tryd.ntmps10
  go_wp2
  refine wp_loop_rounds 1 ?_
  rw [rounds_succ]
  go_wp2
  go_ret
  exact rmay_good (Below.refl _ _) ⟨by simp, good_nil⟩

set_option maxRecDepth 100000 in
set_option maxHeartbeats 4000000 in
theorem rmay_some (v : Value) (ks : List Key) (w : World) (hv : Krow w v ks) (hl : ks.length ≤ 64) (h0 : 0 < ks.length) :
    Calls Tryd.prog 10 #[v] w (MayPost ks w) := by
  obtain ⟨a, cap, rfl⟩ := hv.shape
  obtain ⟨b, off, rfl, -, -, -, hbl, hat⟩ := hv.opened h0
  clear hv
  have hat := Lib.hid hat
  have h11 : decide ((64 : Int) < (ks.length : Int)) = false := by rw [decide_eq_false_iff_not]; omega
  go_enter Tryd.func10, Tryd.ntmps10
  go_wp2
  go_loopw [3] (fun i wr => ∃ k : Nat, k ≤ ks.length ∧ i = .int .i64 k ∧ Good (ks.take k) ∧ Below w.heap.size w wr) (fun i _ => ks.length - (intOf i).toNat)
  case atStart => exact ⟨0, Nat.zero_le _, rfl, good_nil, Below.refl _ _⟩
  case round =>
    obtain ⟨k, hk, rfl, hg, hbw⟩ := hrel
    by_cases hlt : k < ks.length
    · have hat2 := Lib.hid (fun t (ht : t < ks.length) => (hat.out t ht).below hbw hbl)
      obtain ⟨c0, c1, c2, c3, c4, c5⟩ := hat2.out k hlt
      have hbad : (fnd (ks.take k) ks[k].id).isSome = true ∨ mayK ks[k] = false → ¬ mayKs ks := fun h hm => bad_step hlt h.symm hm.2
      have hstp := fun h1 h2 => good_step hlt hg h1 h2
      have HIN := Lib.hid (fun (h : ∀ t (ht : t < ks.length), t < k → ks[t].id ≠ ks[k].id) => fnd_none_of (Nat.le_of_lt hlt) h)
      have HIS := Lib.hid (fun (t : Nat) (ht : t < ks.length) (hj : t < k) (h : ks[t].id = ks[k].id) => fnd_is_some ht hj h)
      have HBW := Lib.hid hbw
      clear hg
      generalize ks[k] = o at *
      obtain ⟨x1, x2, x3, x4, x5, x6⟩ := o
      simp only at c0 c1 c2 c3 c4 c5
      have hsz := hbw.size
      have hbW := hbw.alloc hbw.size (.cells #[.int .i64 x1, .bool x2, .int .u8 x3, .bool x4, .bool x5, .int .i64 x6] 67)
      have HBX := Lib.hid hbW
      clear hbw hbW
      have hblr : b < wr.heap.size := by omega
      clear hsz
      by_cases q0 : x1 < 1
      · have d0 : decide (x1 < 1) = true := by simpa using q0
        have HN := Lib.hid (hbad (.inr (by unfold mayK; rw [decide_eq_false_iff_not]; simp only; omega)))
        clear q0 hbad hstp
        go_wp2
        go_ret
        exact rmay_bad HBX.out HN.out
      have d0 : decide (x1 < 1) = false := by simpa using q0
      by_cases q1 : 1000 < x1
      · have d1 : decide (1000 < x1) = true := by simpa using q1
        have HN := Lib.hid (hbad (.inr (by unfold mayK; rw [decide_eq_false_iff_not]; simp only; omega)))
        clear q1 hbad hstp
        clear q0
        go_wp2
        go_ret
        exact rmay_bad HBX.out HN.out
      have d1 : decide (1000 < x1) = false := by simpa using q1
      by_cases q2 : x3 < 1
      · have d2 : decide (x3 < 1) = true := by simpa using q2
        have HN := Lib.hid (hbad (.inr (by unfold mayK; rw [decide_eq_false_iff_not]; simp only; omega)))
        clear q2 hbad hstp
        clear q0
        clear q1
        go_wp2
        go_ret
        exact rmay_bad HBX.out HN.out
      have d2 : decide (x3 < 1) = false := by simpa using q2
      by_cases q3 : 4 < x3
      · have d3 : decide (4 < x3) = true := by simpa using q3
        have HN := Lib.hid (hbad (.inr (by unfold mayK; rw [decide_eq_false_iff_not]; simp only; omega)))
        clear q3 hbad hstp
        clear q0
        clear q1
        clear q2
        go_wp2
        go_ret
        exact rmay_bad HBX.out HN.out
      have d3 : decide (4 < x3) = false := by simpa using q3
      by_cases q4 : x6 < 0
      · have d4 : decide (x6 < 0) = true := by simpa using q4
        have HN := Lib.hid (hbad (.inr (by unfold mayK; rw [decide_eq_false_iff_not]; simp only; omega)))
        clear q4 hbad hstp
        clear q0
        clear q1
        clear q2
        clear q3
        go_wp2
        go_ret
        exact rmay_bad HBX.out HN.out
      have d4 : decide (x6 < 0) = false := by simpa using q4
      by_cases q5 : 8 < x6
      · have d5 : decide (8 < x6) = true := by simpa using q5
        have HN := Lib.hid (hbad (.inr (by unfold mayK; rw [decide_eq_false_iff_not]; simp only; omega)))
        clear q5 hbad hstp
        clear q0
        clear q1
        clear q2
        clear q3
        clear q4
        go_wp2
        go_ret
        exact rmay_bad HBX.out HN.out
      have d5 : decide (8 < x6) = false := by simpa using q5
      by_cases q6 : x2 = false ∧ x6 ≠ 0
      · obtain ⟨rfl, q7⟩ := q6
        have d6 : (x6 != 0) = true := by simpa using q7
        have HN := Lib.hid (hbad (.inr (by unfold mayK; rw [decide_eq_false_iff_not]; simp [q7])))
        clear q0 q1 q2 q3 q4 q5 q7 hbad hstp
        go_wp2
        go_ret
        exact rmay_bad HBX.out HN.out
      by_cases q7 : x2 = true ∧ x5 = true
      · obtain ⟨rfl, rfl⟩ := q7
        have HN := Lib.hid (hbad (.inr (by unfold mayK; rw [decide_eq_false_iff_not]; simp)))
        clear q0 q1 q2 q3 q4 q5 q6 hbad hstp
        go_wp2
        go_ret
        exact rmay_bad HBX.out HN.out
      have hmk : mayK ⟨x1, x2, x3, x4, x5, x6⟩ = true := by
        unfold mayK
        rw [decide_eq_true_iff]
        refine ⟨by simp only; omega, by simp only; omega, by simp only; omega, by simp only; omega, by simp only; omega, by simp only; omega, ?_, q7⟩
        cases x2
        · right
          by_cases e : x6 = 0
          · exact e
          · exact absurd ⟨rfl, e⟩ q6
        · left; rfl
      have HST := Lib.hid (fun h => hstp hmk h)
      have HBD := Lib.hid (fun h => hbad (.inl h))
      have d6 : x2 = false → (x6 != 0) = false := fun h => by
        by_cases e : x6 = 0
        · simpa using e
        · exact absurd ⟨h, e⟩ q6
      have d7 : x2 = true → x5 = false := fun h => by
        cases x5
        · rfl
        · exact absurd ⟨h, rfl⟩ q7
      clear q0 q1 q2 q3 q4 q5 q6 q7 hbad hstp hmk
      have hkb := KBox.box ⟨x1, x2, x3, x4, x5, x6⟩ wr 67
      have hat3 := Lib.hid (fun t (ht : t < ks.length) => (hat2.out t ht).below ((Below.refl wr.heap.size wr).alloc (Nat.le_refl _) (.cells #[.int .i64 x1, .bool x2, .int .u8 x3, .bool x4, .bool x5, .int .i64 x6] 67)) hblr)
      cases x2
      · have d6 := d6 rfl
        clear d7
        go_wp2
        obtain ⟨wo, rfl⟩ : ∃ wo : World, wo = wr := ⟨_, rfl⟩
        generalize wo.alloc (.cells #[.int .i64 x1, .bool false, .int .u8 x3, .bool x4, .bool x5, .int .i64 x6] 67) = W at *
        go_loopw [5] (fun i wr => ∃ t n : Nat, t ≤ k ∧ i = .int .i64 t ∧ Hid (∀ m (hm : m < ks.length), m < t → ks[m].id ≠ x1) ∧ wr = W.drewN n) (fun i _ => k - (intOf i).toNat)
        case atStart => exact ⟨0, 0, Nat.zero_le _, rfl, Lib.hid (fun m hm h => absurd h (by omega)), rfl⟩
        case round =>
          obtain ⟨t, n, htk, rfl, hno, rfl⟩ := hrel
          by_cases htl : t < k
          · have htt : t < ks.length := by omega
            have e0 := (hat3.out t htt).1
            have HIS2 := Lib.hid (fun h => HBD.out (HIS.out t htt htl h))
            have HNO2 := Lib.hid (fun (h : ks[t].id ≠ x1) m (hm : m < ks.length) (hmt : m < t + 1) => if e : m = t then (by subst e; exact h) else hno.out m hm (by omega))
            generalize ks[t].id = y at e0 HIS2 HNO2
            by_cases he : y = x1
            · have q1 : (y == x1) = true := by simpa using he
              have HN := Lib.hid (HIS2.out he)
              clear he HIS2 HNO2 hno
              go_wp2
              go_quiet (fail)
              go_wp2
              go_ret
              exact rmay_bad (blw_drewN (blw_drewN HBX.out n) _) HN.out
            · have q1 : (y == x1) = false := by simpa using he
              have HN := Lib.hid (HNO2.out he)
              clear he HIS2 HNO2 hno
              go_wp2
              go_quiet (fail)
              go_wp2
              go_roundw
              case rel => exact ⟨t + 1, n + nq, by omega, by go_num, HN, rfl⟩
              case measure => simp [intOf]; omega
          · obtain rfl : t = k := by omega
            have HG := Lib.hid (HST.out (HIN.out (fun m hm hmt => hno.out m hm hmt)))
            have HBQ := Lib.hid (blw_drewN HBX.out n)
            clear hno
            go_wp2
            go_roundw
            case rel => exact ⟨t + 1, by omega, by go_num, HG.out, HBQ.out⟩
            case measure => simp [intOf]; omega
      · have d7 := d7 rfl
        subst d7
        clear d6
        go_wp2
        obtain ⟨wo, rfl⟩ : ∃ wo : World, wo = wr := ⟨_, rfl⟩
        generalize wo.alloc (.cells #[.int .i64 x1, .bool true, .int .u8 x3, .bool x4, .bool false, .int .i64 x6] 67) = W at *
        go_loopw [5] (fun i wr => ∃ t n : Nat, t ≤ k ∧ i = .int .i64 t ∧ Hid (∀ m (hm : m < ks.length), m < t → ks[m].id ≠ x1) ∧ wr = W.drewN n) (fun i _ => k - (intOf i).toNat)
        case atStart => exact ⟨0, 0, Nat.zero_le _, rfl, Lib.hid (fun m hm h => absurd h (by omega)), rfl⟩
        case round =>
          obtain ⟨t, n, htk, rfl, hno, rfl⟩ := hrel
          by_cases htl : t < k
          · have htt : t < ks.length := by omega
            have e0 := (hat3.out t htt).1
            have HIS2 := Lib.hid (fun h => HBD.out (HIS.out t htt htl h))
            have HNO2 := Lib.hid (fun (h : ks[t].id ≠ x1) m (hm : m < ks.length) (hmt : m < t + 1) => if e : m = t then (by subst e; exact h) else hno.out m hm (by omega))
            generalize ks[t].id = y at e0 HIS2 HNO2
            by_cases he : y = x1
            · have q1 : (y == x1) = true := by simpa using he
              have HN := Lib.hid (HIS2.out he)
              clear he HIS2 HNO2 hno
              go_wp2
              go_quiet (fail)
              go_wp2
              go_ret
              exact rmay_bad (blw_drewN (blw_drewN HBX.out n) _) HN.out
            · have q1 : (y == x1) = false := by simpa using he
              have HN := Lib.hid (HNO2.out he)
              clear he HIS2 HNO2 hno
              go_wp2
              go_quiet (fail)
              go_wp2
              go_roundw
              case rel => exact ⟨t + 1, n + nq, by omega, by go_num, HN, rfl⟩
              case measure => simp [intOf]; omega
          · obtain rfl : t = k := by omega
            have HG := Lib.hid (HST.out (HIN.out (fun m hm hmt => hno.out m hm hmt)))
            have HBQ := Lib.hid (blw_drewN HBX.out n)
            clear hno
            go_wp2
            go_roundw
            case rel => exact ⟨t + 1, by omega, by go_num, HG.out, HBQ.out⟩
            case measure => simp [intOf]; omega
    · obtain rfl : k = ks.length := by omega
      rw [List.take_of_length_le (Nat.le_refl _)] at hg
      have HG := Lib.hid (show mayKs ks from ⟨hl, hg⟩)
      have HB := Lib.hid hbw
      clear hg hbw
      go_wp2
      go_ret
      exact rmay_good HB.out HG.out

theorem rmay_keys (v : Value) (ks : List Key) (w : World) (hv : Krow w v ks) :
    Calls Tryd.prog 10 #[v] w (MayPost ks w) := by
  by_cases hl : 64 < ks.length
  · exact rmay_long v ks w hv hl
  · by_cases h0 : 0 < ks.length
    · exact rmay_some v ks w hv (by omega) h0
    · obtain rfl : ks = [] := List.eq_nil_of_length_eq_zero (by omega)
      exact rmay_none v w hv
end Go.Proofs.YtiobcifpebehnaaDoor
