
import Derived.Test.YtoiomijchchlnaaF11
/- F12: what the laws say, as plain data -/
namespace Go.Proofs.Ytoiomijchchlnaa
open Go.RowKit
set_option linter.unusedVariables false

theorem tot_mem {kd : Int} {p : Opn} (hc : cnt kd p = true) : ∀ xs : List Opn, p ∈ xs → lenO p ≤ tot kd xs
  | x :: r, h => by
    rw [tot_cons]
    have := tot_nn kd r
    rcases List.mem_cons.1 h with rfl | h
    · rw [if_pos hc]; omega
    · have := tot_mem hc r h
      have := lenO_nn x
      split <;> omega
/-- What the numbers of a delta that may be are. -/
theorem may_sums {ks : List Key} {xs : List Opn} (hm : mayX ks xs = 0) : sumK 3 xs = tot 3 xs ∧ sumK 2 xs = tot 2 xs ∧ 0 ≤ tot 3 xs ∧ 0 ≤ tot 2 xs ∧ tot 3 xs ≤ 536870912 ∧ tot 2 xs ≤ 536870912 := by
  obtain ⟨h1, h2, -⟩ := mayX_0.1 hm
  have := tot_nn 3 xs
  have := tot_nn 2 xs
  rw [sumK_tot, sumK_tot]
  omega
theorem fits_0 {ks : List Key} {xs : List Opn} {n most : Int} : fitsX ks xs n most = 0 ↔ mayX ks xs = 0 ∧ 1 ≤ n ∧ n ≤ most ∧ sumK 3 xs ≤ n ∧ keeps n xs ∧ placeX ks xs = true ∧ sumK 2 xs ≤ most - (n - sumK 3 xs) := by
  unfold fitsX
  constructor
  · intro h
    by_cases h0 : mayX ks xs ≠ 0
    · rw [if_pos h0] at h; exact absurd h h0
    rw [if_neg h0] at h
    by_cases h1 : n < 1 ∨ most < n ∨ n < sumK 3 xs
    · rw [if_pos h1] at h; omega
    rw [if_neg h1] at h
    by_cases h2 : ¬ keeps n xs
    · rw [if_pos h2] at h; omega
    rw [if_neg h2] at h
    by_cases h3 : placeX ks xs = false
    · rw [if_pos h3] at h; omega
    rw [if_neg h3] at h
    by_cases h4 : most - (n - sumK 3 xs) < sumK 2 xs
    · rw [if_pos h4] at h; omega
    exact ⟨by simpa using h0, by omega, by omega, by omega, by simpa using h2, by simpa using h3, by omega⟩
  · intro ⟨h0, h1, h2, h3, h4, h5, h6⟩
    rw [if_neg (by simp [h0]), if_neg (by omega), if_neg (by simpa using h4), if_neg (by simp [h5]), if_neg (by omega)]
theorem keeps_more {ks : List Key} {xs : List Opn} {n : Int} (hm : mayX ks xs = 0) (ht : sumK 3 xs ≤ n) (hk : keeps n xs) (more : Int) (h0 : 0 ≤ more) : keeps (n + more) xs := by
  intro j hj ⟨h1, h2⟩
  have h3 := tk_within (mayX_0.1 hm).2.2 (j + 1)
  have h4 := may_sums hm
  have h5 := hk j hj
  by_cases h6 : n - tk (xs.take (j + 1)) = 0
  · exact h5 ⟨h1, h6⟩
  · omega
/-- What is told of a greater most. -/
theorem fits_most {ks : List Key} {xs : List Opn} {n most more : Int} (h1 : 1 ≤ n) (hn : n ≤ most) (h0 : 0 ≤ more) (hf : fitsX ks xs n most ≠ 0) :
    fitsX ks xs n (most + more) = fitsX ks xs n most ∨ (fitsX ks xs n most = 8 ∧ fitsX ks xs n (most + more) = 0) := by
  unfold fitsX at hf ⊢
  by_cases q0 : mayX ks xs ≠ 0
  · rw [if_pos q0, if_pos q0]; exact .inl rfl
  rw [if_neg q0] at hf
  rw [if_neg q0, if_neg q0]
  by_cases q1 : n < sumK 3 xs
  · rw [if_pos (.inr (.inr q1)), if_pos (.inr (.inr q1))]; exact .inl rfl
  rw [if_neg (by omega)] at hf
  rw [if_neg (c := n < 1 ∨ most + more < n ∨ n < sumK 3 xs) (by omega), if_neg (c := n < 1 ∨ most < n ∨ n < sumK 3 xs) (by omega)]
  by_cases q2 : ¬ keeps n xs
  · rw [if_pos q2, if_pos q2]; exact .inl rfl
  rw [if_neg q2] at hf
  rw [if_neg q2, if_neg q2]
  by_cases q3 : placeX ks xs = false
  · rw [if_pos q3, if_pos q3]; exact .inl rfl
  rw [if_neg q3] at hf
  rw [if_neg q3, if_neg q3]
  by_cases q4 : most - (n - sumK 3 xs) < sumK 2 xs
  · rw [if_pos q4]
    by_cases q5 : most + more - (n - sumK 3 xs) < sumK 2 xs
    · rw [if_pos q5]; exact .inl rfl
    · rw [if_neg q5]; exact .inr ⟨rfl, rfl⟩
  · rw [if_neg q4] at hf; exact absurd rfl hf
/-- What is true of what fits. -/
theorem fits_then {ks : List Key} {xs : List Opn} {n most more : Int} (h0 : 0 ≤ more) (hf : fitsX ks xs n most = 0) :
    fitsX ks xs n (most + more) = 0 ∧ fitsX ks xs (n + more) (most + more) = 0 ∧ 1 ≤ n - sumK 3 xs + sumK 2 xs ∧ n - sumK 3 xs + sumK 2 xs ≤ most := by
  obtain ⟨hm, h1, h2, h3, h4, h5, h6⟩ := fits_0.1 hf
  refine ⟨fits_0.2 ⟨hm, h1, by omega, h3, h4, h5, by omega⟩, fits_0.2 ⟨hm, by omega, by omega, by omega, keeps_more hm h3 h4 more h0, h5, by omega⟩, ?_, by omega⟩
  obtain ⟨e3, e2, p3, p2, -, -⟩ := may_sums hm
  obtain ⟨-, -, hfine⟩ := mayX_0.1 hm
  rw [e3] at h3
  rw [e3, e2]
  by_cases hlt : tot 3 xs < n
  · omega
  have hl : 0 < xs.length := by
    cases xs with
    | nil => rw [tot_nil] at hlt; omega
    | cons x r => simp
  have hj : xs.length - 1 < xs.length := by omega
  have hk := h4 (xs.length - 1) hj
  have e : xs.length - 1 + 1 = xs.length := by omega
  rw [e, List.take_length, tk_fine xs hfine] at hk
  have h1k : xs[xs.length - 1].k = 1 := Classical.byContradiction fun q => hk ⟨q, by omega⟩
  have := tot_mem (kd := 2) (cnt_1 h1k) xs (List.getElem_mem hj)
  have := (hfine _ (List.getElem_mem hj)).len
  omega

/-! ### pieces -/
theorem may_parts {ks : List Key} {xs : List Opn} (hm : mayX ks xs = 0) (k : Nat) :
    mayX ks (xs.take k) = 0 ∧ mayX ks (xs.drop k) = 0 ∧ sumK 3 (xs.take k) + sumK 3 (xs.drop k) = sumK 3 xs ∧ sumK 2 (xs.take k) + sumK 2 (xs.drop k) = sumK 2 xs := by
  obtain ⟨h3, h2, hf⟩ := mayX_0.1 hm
  have a3 := tot_app 3 (xs.take k) (xs.drop k)
  have a2 := tot_app 2 (xs.take k) (xs.drop k)
  rw [List.take_append_drop] at a3 a2
  have n1 := tot_nn 3 (xs.take k)
  have n2 := tot_nn 3 (xs.drop k)
  have n3 := tot_nn 2 (xs.take k)
  have n4 := tot_nn 2 (xs.drop k)
  refine ⟨mayX_0.2 ⟨by omega, by omega, fun p hp => hf p (List.mem_of_mem_take hp)⟩, mayX_0.2 ⟨by omega, by omega, fun p hp => hf p (List.mem_of_mem_drop hp)⟩, ?_, ?_⟩
  · rw [sumK_tot, sumK_tot, sumK_tot]; omega
  · rw [sumK_tot, sumK_tot, sumK_tot]; omega
theorem place_parts (ks : List Key) (xs : List Opn) (k : Nat) : placeX ks xs = (placeX ks (xs.take k) && placeX ks (xs.drop k)) := by
  unfold placeX
  rw [← List.all_append, List.take_append_drop]

/-! ### shorter documents -/
theorem fits_less {ks : List Key} {xs : List Opn} {n most less : Int} (h1 : 1 ≤ n) (hn : n ≤ most) (h0 : 0 ≤ less) (hl : less < n) (hf : fitsX ks xs n most = 3 ∨ fitsX ks xs n most = 4 ∨ fitsX ks xs n most = 5) :
    fitsX ks xs (n - less) most = fitsX ks xs n most := by
  unfold fitsX at hf ⊢
  by_cases q0 : mayX ks xs ≠ 0
  · rw [if_pos q0, if_pos q0]
  rw [if_neg q0] at hf
  rw [if_neg q0, if_neg q0]
  by_cases q1 : n < sumK 3 xs
  · rw [if_pos (by omega), if_pos (by omega)]
  rw [if_neg (by omega)] at hf
  exfalso
  by_cases q2 : ¬ keeps n xs
  · rw [if_pos q2] at hf; omega
  rw [if_neg q2] at hf
  by_cases q3 : placeX ks xs = false
  · rw [if_pos q3] at hf; omega
  rw [if_neg q3] at hf
  by_cases q4 : most - (n - sumK 3 xs) < sumK 2 xs
  · rw [if_pos q4] at hf; omega
  · rw [if_neg q4] at hf; omega
theorem fits_tight {ks : List Key} {xs : List Opn} {n most : Int} (hn : n ≤ most) (hf : fitsX ks xs n most ≠ 0) : fitsX ks xs n n ≠ 0 := by
  intro h
  obtain ⟨hm, h1, h2, h3, h4, h5, h6⟩ := fits_0.1 h
  exact hf (fits_0.2 ⟨hm, h1, by omega, h3, h4, h5, by omega⟩)
theorem may6_nil (ks : List Key) : may6 ks [] = 0 := rfl
theorem mayX_one (ks : List Key) {k : Int} (h : 1 ≤ k) : mayX ks [oN k] = if 536870912 < k then 3 else 0 := by
  have hl : lenO (oN k) = k := by unfold lenO oN; simp only; rw [if_neg (by omega), if_pos (by omega)]
  have t3 : tot 3 [oN k] = k := by rw [tot_cons, tot_nil, if_pos (cnt_1 rfl), hl]; omega
  have t2 : tot 2 [oN k] = k := by rw [tot_cons, tot_nil, if_pos (cnt_1 rfl), hl]; omega
  by_cases hk : 536870912 < k
  · rw [if_pos hk]
    unfold mayX
    rw [sumK_tot, t3, if_pos (by omega)]
  · rw [if_neg hk]
    refine mayX_0.2 ⟨by omega, by omega, fun p hp => ?_⟩
    obtain rfl := List.mem_singleton.1 hp
    have e : mayO ks (oN k) = 0 := by
      unfold mayO mayR
      rw [if_pos (show (oN k).k = 1 from rfl), hl, if_neg (by simp [oN]; omega)]
      exact may6_nil ks
    exact ⟨by omega, by omega⟩
theorem fits_one (ks : List Key) {k n most : Int} (hk : 1 ≤ k) (hn : k ≤ n) (hm : n ≤ most) : decide (fitsX ks [oN k] n most = 0) = decide (k ≤ 536870912) := by
  have hl : lenO (oN k) = k := by unfold lenO oN; simp only; rw [if_neg (by omega), if_pos (by omega)]
  have t3 : tot 3 [oN k] = k := by rw [tot_cons, tot_nil, if_pos (cnt_1 rfl), hl]; omega
  have t2 : tot 2 [oN k] = k := by rw [tot_cons, tot_nil, if_pos (cnt_1 rfl), hl]; omega
  rw [decide_eq_decide]
  constructor
  · intro h
    have := (fits_0.1 h).1
    rw [mayX_one ks hk] at this
    by_cases q : 536870912 < k
    · rw [if_pos q] at this; omega
    · omega
  · intro h
    have hm0 : mayX ks [oN k] = 0 := by rw [mayX_one ks hk, if_neg (by omega)]
    refine fits_0.2 ⟨hm0, by omega, hm, by rw [sumK_tot, t3]; omega, ?_, rfl, by rw [sumK_tot, sumK_tot, t3, t2]; omega⟩
    intro j hj ⟨h1, _⟩
    match j, hj with
    | 0, _ => exact h1 rfl
end Go.Proofs.Ytoiomijchchlnaa
