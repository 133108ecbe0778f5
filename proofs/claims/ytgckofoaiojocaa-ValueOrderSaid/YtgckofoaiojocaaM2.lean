
import Derived.Test.YtgckofoaiojocaaA7
namespace Go.Proofs.Ytgckofoaiojocaa
open Go.Lib
set_option linter.unusedVariables false

/-- The number after k bytes, of which the first gave h. -/
def rOf (h : Int) (bs : List Int) : Nat → Int
  | 0 => h
  | k + 1 => if k = 0 then h else rOf h bs k * 64 + bs.getD k 0 - 128
def contTo (bs : List Int) (k : Nat) : Prop := ∀ j, 1 ≤ j → j < k → 128 ≤ bs.getD j 0 ∧ bs.getD j 0 ≤ 191
theorem rOf_one (h : Int) (bs : List Int) : rOf h bs 1 = h := by simp [rOf]
theorem rOf_succ (h : Int) (bs : List Int) (k : Nat) (hk : 1 ≤ k) : rOf h bs (k + 1) = rOf h bs k * 64 + bs.getD k 0 - 128 := by
  rw [rOf, if_neg (by omega)]
theorem rOf_two (h : Int) (bs : List Int) : rOf h bs 2 = h * 64 + bs.getD 1 0 - 128 := by rw [rOf_succ h bs 1 (by omega), rOf_one]
theorem rOf_three (h : Int) (bs : List Int) : rOf h bs 3 = (h * 64 + bs.getD 1 0 - 128) * 64 + bs.getD 2 0 - 128 := by rw [rOf_succ h bs 2 (by omega), rOf_two]
theorem rOf_four (h : Int) (bs : List Int) : rOf h bs 4 = ((h * 64 + bs.getD 1 0 - 128) * 64 + bs.getD 2 0 - 128) * 64 + bs.getD 3 0 - 128 := by rw [rOf_succ h bs 3 (by omega), rOf_three]
theorem contTo_succ (bs : List Int) (k : Nat) (h : contTo bs k) (h1 : 128 ≤ bs.getD k 0) (h2 : bs.getD k 0 ≤ 191) : contTo bs (k + 1) := by
  intro j hj hjk
  by_cases e : j = k
  · subst e; exact ⟨h1, h2⟩
  · exact h j hj (by omega)
theorem rOf_bound (h : Int) (bs : List Int) (h0 : 0 ≤ h) (h1 : h ≤ 127) (k : Nat) (hk1 : 1 ≤ k) (hk : k ≤ 4) (hc : contTo bs k) : 0 ≤ rOf h bs k ∧ rOf h bs k ≤ 33554431 := by
  have e1 := rOf_one h bs
  have e2 := rOf_two h bs
  have e3 := rOf_three h bs
  have e4 := rOf_four h bs
  have hcases : k = 1 ∨ k = 2 ∨ k = 3 ∨ k = 4 := by omega
  rcases hcases with rfl | rfl | rfl | rfl
  · omega
  · have c1 := hc 1 (by omega) (by omega)
    omega
  · have c1 := hc 1 (by omega) (by omega)
    have c2 := hc 2 (by omega) (by omega)
    omega
  · have c1 := hc 1 (by omega) (by omega)
    have c2 := hc 2 (by omega) (by omega)
    have c3 := hc 3 (by omega) (by omega)
    omega

theorem rOf_bound3 (h : Int) (bs : List Int) (h0 : 0 ≤ h) (h1 : h ≤ 127) (k : Nat) (hk1 : 1 ≤ k) (hk : k ≤ 3) (hc : contTo bs k) : 0 ≤ rOf h bs k ∧ rOf h bs k ≤ 1000000 := by
  have e1 := rOf_one h bs
  have e2 := rOf_two h bs
  have e3 := rOf_three h bs
  have hcases : k = 1 ∨ k = 2 ∨ k = 3 := by omega
  rcases hcases with rfl | rfl | rfl
  · omega
  · have c1 := hc 1 (by omega) (by omega)
    omega
  · have c1 := hc 1 (by omega) (by omega)
    have c2 := hc 2 (by omega) (by omega)
    omega

theorem encLen (r : Int) (h : mayP r) : ((encodeRuneZ r).length = 1 ∧ r < 128) ∨ ((encodeRuneZ r).length = 2 ∧ 128 ≤ r ∧ r < 2048) ∨ ((encodeRuneZ r).length = 3 ∧ 2048 ≤ r ∧ r < 65536) ∨ ((encodeRuneZ r).length = 4 ∧ 65536 ≤ r) := by
  obtain ⟨h0, h1, h2⟩ := h
  have hcases : r < 128 ∨ (128 ≤ r ∧ r < 2048) ∨ (2048 ≤ r ∧ r < 65536) ∨ 65536 ≤ r := by omega
  rcases hcases with h | ⟨h, h'⟩ | ⟨h, h'⟩ | h
  · exact .inl ⟨by rw [encodeRuneZ_one (by omega) (by omega)]; rfl, h⟩
  · exact .inr (.inl ⟨by rw [encodeRuneZ_two (by omega) (by omega)]; rfl, h, h'⟩)
  · exact .inr (.inr (.inl ⟨by rw [encodeRuneZ_three (by omega)]; rfl, h, h'⟩))
  · exact .inr (.inr (.inr ⟨by rw [encodeRuneZ_four (by omega) (by omega)]; rfl, h⟩))

theorem bl_getD (bs : List Int) (j : Nat) (hb : ∀ b ∈ bs, 0 ≤ b ∧ b < 256) : (((bl bs).getD j 0).toNat : Int) = bs.getD j 0 := by
  by_cases hj : j < bs.length
  · have hm : bs[j] ∈ bs := List.getElem_mem hj
    have := hb _ hm
    have e : (bl bs).getD j 0 = UInt8.ofNat (bs[j]).toNat := by
      show (bs.map fun n => UInt8.ofNat n.toNat).getD j 0 = _
      simp [List.getD, hj]
    rw [e]
    simp [List.getD, hj]
    omega
  · have e : (bl bs).getD j 0 = 0 := by
      show (bs.map fun n => UInt8.ofNat n.toNat).getD j 0 = _
      simp [List.getD, hj]
    rw [e]
    simp [List.getD, hj]

/-- What the document's next gives: the decoder's answer, or nothing. -/
def nextGives (bs : List Int) : Int × Int := if (decodeL (bl bs)).1 = 65533 ∧ (decodeL (bl bs)).2 = 1 then (0, 0) else ((decodeL (bl bs)).1, (decodeL (bl bs)).2)

/-- The class of a lead byte: how many bytes, and the first number. -/
def lead (b0 : Int) (n : Nat) (h : Int) : Prop := (b0 < 128 ∧ n = 1 ∧ h = b0) ∨ (192 ≤ b0 ∧ b0 < 224 ∧ n = 2 ∧ h = b0 - 192) ∨ (224 ≤ b0 ∧ b0 < 240 ∧ n = 3 ∧ h = b0 - 224) ∨ (240 ≤ b0 ∧ n = 4 ∧ h = b0 - 240)

set_option maxHeartbeats 2000000 in
theorem next_good (bs : List Int) (hb : ∀ b ∈ bs, 0 ≤ b ∧ b < 256) (hne : 0 < bs.length) (n : Nat) (h : Int) (hl : lead (bs.getD 0 0) n h) (hn : n ≤ bs.length) (hc : contTo bs n)
    (hm : mayP (rOf h bs n)) (he : (encodeRuneZ (rOf h bs n)).length = n) : nextGives bs = (rOf h bs n, (n : Int)) := by
  have g0 := bl_getD bs 0 hb
  have g1 := bl_getD bs 1 hb
  have g2 := bl_getD bs 2 hb
  have g3 := bl_getD bs 3 hb
  have e1 := rOf_one h bs
  have e2 := rOf_two h bs
  have e3 := rOf_three h bs
  have e4 := rOf_four h bs
  have en := encLen _ hm
  have key : decodeL (bl bs) = ((rOf h bs n).toNat, n) := by
    rw [decodeL_N, bl_len]
    generalize ((bl bs).getD 0 0).toNat = b0 at *
    generalize ((bl bs).getD 1 0).toNat = b1 at *
    generalize ((bl bs).getD 2 0).toNat = b2 at *
    generalize ((bl bs).getD 3 0).toNat = b3 at *
    obtain ⟨m0, m1, m2⟩ := hm
    rcases hl with ⟨l1, rfl, l2⟩ | ⟨l1, l3, rfl, l2⟩ | ⟨l1, l3, rfl, l2⟩ | ⟨l1, rfl, l2⟩
    · unfold decodeN
      rw [if_pos (by omega)]
      congr 1
      omega
    · have c1 := hc 1 (by omega) (by omega)
      unfold decodeN
      rw [if_neg (by omega), if_pos (by omega), if_pos (by omega)]
      congr 1
      omega
    · have c1 := hc 1 (by omega) (by omega)
      have c2 := hc 2 (by omega) (by omega)
      unfold decodeN
      rw [if_neg (by omega), if_neg (by omega), if_pos (by omega), if_pos (by omega)]
      congr 1
      omega
    · have c1 := hc 1 (by omega) (by omega)
      have c2 := hc 2 (by omega) (by omega)
      have c3 := hc 3 (by omega) (by omega)
      unfold decodeN
      rw [if_neg (by omega), if_neg (by omega), if_neg (by omega), if_pos (by omega), if_pos (by omega)]
      congr 1
      omega
  unfold nextGives
  rw [key, if_neg]
  · show (((rOf h bs n).toNat : Int), (n : Int)) = _
    rw [Int.toNat_of_nonneg hm.1]
  · rintro ⟨q1, q2⟩
    dsimp only at q1 q2
    omega

theorem next_none_of (bs : List Int) (h : decodeL (bl bs) = (65533, 1)) : nextGives bs = (0, 0) := by
  unfold nextGives
  rw [h, if_pos ⟨rfl, rfl⟩]

/-- A byte from 128 on that leads nothing. -/
theorem next_alone (bs : List Int) (hb : ∀ b ∈ bs, 0 ≤ b ∧ b < 256) (h : 128 ≤ bs.getD 0 0) (h' : bs.getD 0 0 < 192) : nextGives bs = (0, 0) := by
  refine next_none_of bs ?_
  have g0 := bl_getD bs 0 hb
  rw [decodeL_N]
  exact decodeN_cont _ _ _ _ _ (by omega)

set_option maxHeartbeats 2000000 in
/-- Too short, or a byte that does not go on, or a number that may not be, or in another form. -/
theorem next_bad (bs : List Int) (hb : ∀ b ∈ bs, 0 ≤ b ∧ b < 256) (hne : 0 < bs.length) (n : Nat) (h : Int) (hl : lead (bs.getD 0 0) n h)
    (hbad : bs.length < n ∨ (∃ j, 1 ≤ j ∧ j < n ∧ (bs.getD j 0 < 128 ∨ 191 < bs.getD j 0)) ∨ (contTo bs n ∧ (¬ mayP (rOf h bs n) ∨ (encodeRuneZ (rOf h bs n)).length ≠ n))) : nextGives bs = (0, 0) := by
  refine next_none_of bs ?_
  have g0 := bl_getD bs 0 hb
  have g1 := bl_getD bs 1 hb
  have g2 := bl_getD bs 2 hb
  have g3 := bl_getD bs 3 hb
  have e1 := rOf_one h bs
  have e2 := rOf_two h bs
  have e3 := rOf_three h bs
  have e4 := rOf_four h bs
  have k0 := ((bl bs).getD 0 0).toNat_lt
  have k1 := ((bl bs).getD 1 0).toNat_lt
  have k2 := ((bl bs).getD 2 0).toNat_lt
  have k3 := ((bl bs).getD 3 0).toNat_lt
  have en : mayP (rOf h bs n) → _ := encLen (rOf h bs n)
  rw [decodeL_N, bl_len]
  have hbad' : bs.length < n ∨ (1 < n ∧ (bs.getD 1 0 < 128 ∨ 191 < bs.getD 1 0)) ∨ (2 < n ∧ (bs.getD 2 0 < 128 ∨ 191 < bs.getD 2 0)) ∨ (3 < n ∧ (bs.getD 3 0 < 128 ∨ 191 < bs.getD 3 0)) ∨ (contTo bs n ∧ (¬ mayP (rOf h bs n) ∨ (encodeRuneZ (rOf h bs n)).length ≠ n)) := by
    rcases hbad with b | ⟨j, j1, j2, b⟩ | b
    · exact .inl b
    · have hj : j = 1 ∨ j = 2 ∨ j = 3 := by
        rcases hl with ⟨_, rfl, _⟩ | ⟨_, _, rfl, _⟩ | ⟨_, _, rfl, _⟩ | ⟨_, rfl, _⟩ <;> omega
      rcases hj with rfl | rfl | rfl
      · exact .inr (.inl ⟨j2, b⟩)
      · exact .inr (.inr (.inl ⟨j2, b⟩))
      · exact .inr (.inr (.inr (.inl ⟨j2, b⟩)))
    · exact .inr (.inr (.inr (.inr b)))
  clear hbad
  generalize ((bl bs).getD 0 0).toNat = b0 at *
  generalize ((bl bs).getD 1 0).toNat = b1 at *
  generalize ((bl bs).getD 2 0).toNat = b2 at *
  generalize ((bl bs).getD 3 0).toNat = b3 at *
  have hlast : contTo bs n → (∀ j, 1 ≤ j → j < n → 128 ≤ bs.getD j 0 ∧ bs.getD j 0 ≤ 191) := fun h => h
  have hform : (¬ mayP (rOf h bs n) ∨ (encodeRuneZ (rOf h bs n)).length ≠ n) → ((rOf h bs n < 0 ∨ 1114111 < rOf h bs n ∨ (55296 ≤ rOf h bs n ∧ rOf h bs n ≤ 57343)) ∨ (n = 1 ∧ 128 ≤ rOf h bs n) ∨ (n = 2 ∧ (rOf h bs n < 128 ∨ 2048 ≤ rOf h bs n)) ∨ (n = 3 ∧ (rOf h bs n < 2048 ∨ 65536 ≤ rOf h bs n)) ∨ (n = 4 ∧ rOf h bs n < 65536)) := by
    intro hh
    by_cases hm : mayP (rOf h bs n)
    · have h2 := en hm
      obtain ⟨m0, m1, m2⟩ := hm
      have h3 : (encodeRuneZ (rOf h bs n)).length ≠ n := by
        rcases hh with hh | hh
        · exact absurd ⟨m0, m1, m2⟩ hh
        · exact hh
      have hn4 : n = 1 ∨ n = 2 ∨ n = 3 ∨ n = 4 := by
        rcases hl with ⟨_, rfl, _⟩ | ⟨_, _, rfl, _⟩ | ⟨_, _, rfl, _⟩ | ⟨_, rfl, _⟩ <;> omega
      omega
    · left
      unfold mayP at hm
      omega
  rcases hl with ⟨l1, rfl, l2⟩ | ⟨l1, l3, rfl, l2⟩ | ⟨l1, l3, rfl, l2⟩ | ⟨l1, rfl, l2⟩
  · exfalso
    rcases hbad' with b | b | b | b | ⟨b1, b2⟩
    · omega
    · omega
    · omega
    · omega
    · have := hform b2
      omega
  · unfold decodeN
    rcases hbad' with b | b | b | b | ⟨b1, b2⟩
    · repeat' split
      all_goals first | rfl | (exfalso; omega)
    · repeat' split
      all_goals first | rfl | (exfalso; omega)
    · omega
    · omega
    · have c1 := b1 1 (by omega) (by omega)
      have := hform b2
      repeat' split
      all_goals first | rfl | (exfalso; omega)
  · unfold decodeN
    rcases hbad' with b | b | b | b | ⟨b1, b2⟩
    · repeat' split
      all_goals first | rfl | (exfalso; omega)
    · repeat' split
      all_goals first | rfl | (exfalso; omega)
    · repeat' split
      all_goals first | rfl | (exfalso; omega)
    · omega
    · have c1 := b1 1 (by omega) (by omega)
      have c2 := b1 2 (by omega) (by omega)
      have := hform b2
      repeat' split
      all_goals first | rfl | (exfalso; omega)
  · unfold decodeN
    rcases hbad' with b | b | b | b | ⟨b1, b2⟩
    · repeat' split
      all_goals first | rfl | (exfalso; omega)
    · repeat' split
      all_goals first | rfl | (exfalso; omega)
    · repeat' split
      all_goals first | rfl | (exfalso; omega)
    · repeat' split
      all_goals first | rfl | (exfalso; omega)
    · have c1 := b1 1 (by omega) (by omega)
      have c2 := b1 2 (by omega) (by omega)
      have c3 := b1 3 (by omega) (by omega)
      have := hform b2
      repeat' split
      all_goals first | rfl | (exfalso; omega)
end Go.Proofs.Ytgckofoaiojocaa
