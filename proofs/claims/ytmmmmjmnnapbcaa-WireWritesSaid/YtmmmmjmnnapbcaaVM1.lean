import Derived.WalkKit
namespace Go.Proofs.Ytmmmmjmnnapbcaa
set_option linter.unusedVariables false

/-- The form of a natural number. -/
def form (n : Nat) : List Int := if h : n < 128 then [(n : Int)] else ((n % 128 + 128 : Nat) : Int) :: form (n / 128)
  termination_by n
  decreasing_by omega

theorem form_small (n : Nat) (h : n < 128) : form n = [(n : Int)] := by rw [form, dif_pos h]
theorem form_big (n : Nat) (h : 128 ≤ n) : form n = ((n % 128 + 128 : Nat) : Int) :: form (n / 128) := by rw [form, dif_neg (by omega)]
theorem form_pos (n : Nat) : 1 ≤ (form n).length := by
  by_cases h : n < 128
  · rw [form_small n h]; simp
  · rw [form_big n (by omega)]; simp
theorem form_le : ∀ (k n : Nat), n < 128 ^ (k + 1) → (form n).length ≤ k + 1
  | 0, n, h => by rw [form_small n (by simpa using h)]; simp
  | k + 1, n, h => by
    by_cases hs : n < 128
    · rw [form_small n hs]; simp
    · rw [form_big n (by omega), List.length_cons]
      have := form_le k (n / 128) (by rw [Nat.div_lt_iff_lt_mul (by omega)]; rw [Nat.pow_succ] at h; exact h)
      omega
theorem form_ten (n : Nat) (h : n < 18446744073709551616) : (form n).length ≤ 10 :=
  form_le 9 n (Nat.lt_of_lt_of_le h (by decide))
theorem form_mono : ∀ (n m : Nat), n ≤ m → (form n).length ≤ (form m).length := by
  intro n
  induction n using Nat.strongRecOn with
  | _ n ih =>
    intro m h
    by_cases hs : n < 128
    · rw [form_small n hs]; exact form_pos m
    · rw [form_big n (by omega), form_big m (by omega), List.length_cons, List.length_cons]
      have := ih (n / 128) (by omega) (m / 128) (Nat.div_le_div_right h)
      omega
theorem form_succ (n : Nat) : (form (n + 1)).length ≤ (form n).length + 1 := by
  induction n using Nat.strongRecOn with
  | _ n ih =>
    by_cases hs : n + 1 < 128
    · rw [form_small (n + 1) hs]; simp
    · by_cases hs2 : n < 128
      · rw [form_big (n + 1) (by omega), List.length_cons, form_small n hs2, form_small ((n + 1) / 128) (by omega)]; simp
      · rw [form_big (n + 1) (by omega), form_big n (by omega), List.length_cons, List.length_cons]
        rcases (by omega : (n + 1) / 128 = n / 128 ∨ (n + 1) / 128 = n / 128 + 1) with h | h
        · rw [h]; omega
        · rw [h]
          have := ih (n / 128) (by omega)
          omega
theorem form_bytes (n : Nat) : ∀ x ∈ form n, 0 ≤ x ∧ x < 256 := by
  induction n using Nat.strongRecOn with
  | _ n ih =>
    by_cases hs : n < 128
    · rw [form_small n hs]; intro x hx; simp at hx; omega
    · rw [form_big n (by omega)]
      intro x hx
      rcases List.mem_cons.1 hx with rfl | hx
      · omega
      · exact ih (n / 128) (by omega) x hx

/-- What bytes begin with, whatever its size. -/
def dec : List Int → Option (Nat × Nat)
  | [] => none
  | c :: t => if c < 128 then some (c.toNat, 1) else match dec t with
    | none => none
    | some (n, s) => if n = 0 then none else some ((c - 128).toNat + 128 * n, s + 1)

theorem dec_low (c : Int) (t : List Int) (h : c < 128) : dec (c :: t) = some (c.toNat, 1) := by simp [dec, h]
theorem dec_form (n : Nat) (t : List Int) : dec (form n ++ t) = some (n, (form n).length) := by
  induction n using Nat.strongRecOn with
  | _ n ih =>
    by_cases hs : n < 128
    · rw [form_small n hs]
      simp only [List.cons_append, List.nil_append]
      rw [dec_low _ _ (by omega)]
      simp
    · rw [form_big n (by omega)]
      simp only [List.cons_append, dec]
      rw [if_neg (by omega), ih (n / 128) (by omega)]
      simp only
      rw [if_neg (by omega), List.length_cons]
      congr 2
      omega
theorem dec_take : ∀ (bs : List Int), (∀ b ∈ bs, 0 ≤ b ∧ b < 256) → ∀ n s, dec bs = some (n, s) → form n = bs.take s ∧ s = (form n).length ∧ 1 ≤ s ∧ s ≤ bs.length
  | [], _, n, s, h => by simp [dec] at h
  | c :: t, hb, n, s, h => by
    have hc := hb c (List.mem_cons_self ..)
    by_cases hl : c < 128
    · rw [dec_low c t hl] at h
      simp only [Option.some.injEq, Prod.mk.injEq] at h
      obtain ⟨rfl, rfl⟩ := h
      rw [form_small _ (by omega)]
      refine ⟨?_, by simp, by omega, by simp⟩
      simp
      omega
    · simp only [dec, if_neg hl] at h
      cases hd : dec t with
      | none => rw [hd] at h; cases h
      | some p =>
        obtain ⟨m, r⟩ := p
        rw [hd] at h
        simp only at h
        by_cases hm : m = 0
        · rw [if_pos hm] at h; cases h
        · rw [if_neg hm] at h
          simp only [Option.some.injEq, Prod.mk.injEq] at h
          obtain ⟨rfl, rfl⟩ := h
          obtain ⟨h1, h2, h3, h4⟩ := dec_take t (fun b hbt => hb b (List.mem_cons_of_mem _ hbt)) m r hd
          have e1 : ((c - 128).toNat + 128 * m) / 128 = m := by omega
          have e2 : (((c - 128).toNat + 128 * m) % 128 + 128 : Nat) = c.toNat := by omega
          rw [form_big _ (by omega), e1, e2]
          refine ⟨?_, by simp [h2], by omega, by simp; omega⟩
          rw [List.take_succ_cons, ← h1]
          congr 1
          omega
/-- No form begins another one. -/
theorem form_apart {n m : Nat} {t : List Int} (h : form n ++ t = form m) : n = m := by
  have h1 := dec_form n t
  have h2 := dec_form m []
  rw [List.append_nil, ← h, h1] at h2
  simp at h2
  exact h2.1

/-- What is read, once k digits are read that make acc. -/
def lift (k acc : Nat) : Option (Nat × Nat) → Option (Nat × Nat)
  | none => none
  | some (m, s) => if m = 0 ∧ 0 < k then none else some (acc + 128 ^ k * m, s + k)

theorem lift_start (d : Option (Nat × Nat)) : lift 0 0 d = d := by
  cases d with
  | none => rfl
  | some p => obtain ⟨m, s⟩ := p; simp [lift]
theorem lift_on (k acc : Nat) (c : Int) (t : List Int) (h : 128 ≤ c) : lift k acc (dec (c :: t)) = lift (k + 1) (acc + (c - 128).toNat * 128 ^ k) (dec t) := by
  simp only [dec, if_neg (show ¬ c < 128 by omega)]
  cases dec t with
  | none => rfl
  | some p =>
    obtain ⟨m, s⟩ := p
    by_cases hm : m = 0
    · simp [lift, hm]
    · simp only [lift, hm, false_and, if_false]
      rw [if_neg (by omega)]
      congr 2
      · rw [Nat.pow_succ, Nat.mul_add, Nat.mul_comm _ (128 ^ k), ← Nat.mul_assoc, ← Nat.add_assoc]
      · omega
theorem lift_last (k acc : Nat) (c : Int) (t : List Int) (h0 : 0 ≤ c) (h : c < 128) : lift k acc (dec (c :: t)) = if c = 0 ∧ 0 < k then none else some (acc + 128 ^ k * c.toNat, k + 1) := by
  rw [dec_low c t h]
  simp only [lift]
  by_cases hc : c = 0
  · subst hc
    by_cases hk : 0 < k
    · simp [hk]
    · simp [hk]; omega
  · rw [if_neg (by omega), if_neg (by omega), Nat.add_comm k 1]
theorem lift_big (k acc : Nat) (d : Option (Nat × Nat)) (n s : Nat) (h : lift k acc d = some (n, s)) : acc ≤ n ∧ (0 < k → 128 ^ k ≤ n) := by
  cases d with
  | none => cases h
  | some p =>
    obtain ⟨m, r⟩ := p
    simp only [lift] at h
    split at h
    · cases h
    · rename_i hh
      simp only [Option.some.injEq, Prod.mk.injEq] at h
      obtain ⟨rfl, rfl⟩ := h
      refine ⟨by omega, fun hk => ?_⟩
      have : 128 ^ k * 1 ≤ 128 ^ k * m := Nat.mul_le_mul_left _ (by omega)
      omega

/-- The number of 64 bits that bytes begin with. -/
def dec64 (bs : List Int) : Option (Nat × Nat) := match dec bs with
  | none => none
  | some (n, s) => if n < 18446744073709551616 then some (n, s) else none
theorem dec64_form (n : Nat) (t : List Int) (h : n < 18446744073709551616) : dec64 (form n ++ t) = some (n, (form n).length) := by
  unfold dec64
  rw [dec_form]
  simp [h]
theorem dec64_take (bs : List Int) (hb : ∀ b ∈ bs, 0 ≤ b ∧ b < 256) (n s : Nat) (h : dec64 bs = some (n, s)) : form n = bs.take s ∧ s = (form n).length ∧ 1 ≤ s ∧ s ≤ bs.length ∧ n < 18446744073709551616 ∧ s ≤ 10 := by
  unfold dec64 at h
  cases hd : dec bs with
  | none => rw [hd] at h; cases h
  | some p =>
    obtain ⟨m, r⟩ := p
    rw [hd] at h
    simp only at h
    split at h
    · simp only [Option.some.injEq, Prod.mk.injEq] at h
      obtain ⟨rfl, rfl⟩ := h
      obtain ⟨h1, h2, h3, h4⟩ := dec_take bs hb _ _ hd
      exact ⟨h1, h2, h3, h4, by assumption, by rw [h2]; exact form_ten _ (by assumption)⟩
    · cases h
theorem dec64_none (bs : List Int) (h : ∀ n s, dec bs = some (n, s) → 18446744073709551616 ≤ n) : dec64 bs = none := by
  unfold dec64
  cases hd : dec bs with
  | none => rfl
  | some p =>
    obtain ⟨m, r⟩ := p
    simp only
    rw [if_neg]
    have := h m r hd
    omega
theorem dec64_some (bs : List Int) (n s : Nat) (h : dec bs = some (n, s)) (hn : n < 18446744073709551616) : dec64 bs = some (n, s) := by
  unfold dec64
  rw [h]
  simp [hn]

/-- The natural number of a whole one, and back. -/
def zig (i : Int) : Nat := if 0 ≤ i then 2 * i.toNat else 2 * (-(i + 1)).toNat + 1
def zag (n : Nat) : Int := if n % 2 = 0 then (n / 2 : Nat) else -((n / 2 : Nat) : Int) - 1
theorem zag_zig (i : Int) : zag (zig i) = i := by
  unfold zag zig
  by_cases h : 0 ≤ i
  · rw [if_pos h, if_pos (by omega)]; omega
  · rw [if_neg h, if_neg (by omega)]; omega
theorem zig_lt (i : Int) (h1 : -9223372036854775808 ≤ i) (h2 : i ≤ 9223372036854775807) : zig i < 18446744073709551616 := by
  unfold zig
  split <;> omega
theorem zig_near (i : Int) : (form (zig i)).length ≤ (form (zig (-i))).length + 1 ∧ (form (zig (-i))).length ≤ (form (zig i)).length + 1 := by
  rcases (by omega : i = 0 ∨ 0 < i ∨ i < 0) with rfl | h | h
  · simp
  · have e : zig i = zig (-i) + 1 := by
      unfold zig
      rw [if_pos (by omega), if_neg (by omega)]
      omega
    have a := form_succ (zig (-i))
    have b := form_mono (zig (-i)) (zig (-i) + 1) (by omega)
    rw [e]
    omega
  · have e : zig (-i) = zig i + 1 := by
      unfold zig
      rw [if_neg (show ¬ 0 ≤ i by omega), if_pos (by omega)]
      omega
    have a := form_succ (zig i)
    have b := form_mono (zig i) (zig i + 1) (by omega)
    rw [e]
    omega
end Go.Proofs.Ytmmmmjmnnapbcaa
