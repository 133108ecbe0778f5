
import Derived.Test.YtiobcifpebehnaaDoorRA
import Derived.Test.YtiobcifpebehnaaDoorG
/- M2 -/
namespace Go.Proofs.YtiobcifpebehnaaDoor
open Go.Lib
set_option linter.unusedVariables false

/-- The number after k bytes, of which the first gave h. -/
def rOf (h : Int) (bs : List Int) : Nat → Int
  | 0 => h
  | k + 1 => if k = 0 then h else rOf h bs k * 64 + bs.getD k 0 - 128
def contTo (bs : List Int) (k : Nat) : Prop := ∀ j, 1 ≤ j → j < k → 128 ≤ bs.getD j 0 ∧ bs.getD j 0 ≤ 191
theorem rOf_one (h : Int) (bs : List Int) : rOf h bs 1 = h := by simp [rOf]
theorem rOf_succ (h : Int) (bs : List Int) (k : Nat) (hk : 1 ≤ k) : rOf h bs (k + 1) = rOf h bs k * 64 + bs.getD k 0 - 128 := by
  rw [rOf, if_neg (by omega)]
theorem rOf_two (h : Int) (bs : List Int) : rOf h bs 2 = h * 64 + bs.getD 1 0 - 128 := by rw [rOf_succ h bs 1 (by omega), rOf_one]
theorem rOf_three (h : Int) (bs : List Int) : rOf h bs 3 = (h * 64 + bs.getD 1 0 - 128) * 64 + bs.getD 2 0 - 128 := by rw [rOf_succ h bs 2 (by omega), rOf_two]
theorem rOf_four (h : Int) (bs : List Int) : rOf h bs 4 = ((h * 64 + bs.getD 1 0 - 128) * 64 + bs.getD 2 0 - 128) * 64 + bs.getD 3 0 - 128 := by rw [rOf_succ h bs 3 (by omega), rOf_three]
theorem contTo_succ (bs : List Int) (k : Nat) (h : contTo bs k) (h1 : 128 ≤ bs.getD k 0) (h2 : bs.getD k 0 ≤ 191) : contTo bs (k + 1) := by
  intro j hj hjk
  by_cases e : j = k
  · subst e; exact ⟨h1, h2⟩
  · exact h j hj (by omega)
theorem rOf_bound (h : Int) (bs : List Int) (h0 : 0 ≤ h) (h1 : h ≤ 127) (k : Nat) (hk1 : 1 ≤ k) (hk : k ≤ 4) (hc : contTo bs k) : 0 ≤ rOf h bs k ∧ rOf h bs k ≤ 33554431 := by
  have e1 := rOf_one h bs
  have e2 := rOf_two h bs
  have e3 := rOf_three h bs
  have e4 := rOf_four h bs
  have hcases : k = 1 ∨ k = 2 ∨ k = 3 ∨ k = 4 := by omega
  rcases hcases with rfl | rfl | rfl | rfl
  · omega
  · have c1 := hc 1 (by omega) (by omega)
    omega
  · have c1 := hc 1 (by omega) (by omega)
    have c2 := hc 2 (by omega) (by omega)
    omega
  · have c1 := hc 1 (by omega) (by omega)
    have c2 := hc 2 (by omega) (by omega)
    have c3 := hc 3 (by omega) (by omega)
    omega

theorem rOf_bound3 (h : Int) (bs : List Int) (h0 : 0 ≤ h) (h1 : h ≤ 127) (k : Nat) (hk1 : 1 ≤ k) (hk : k ≤ 3) (hc : contTo bs k) : 0 ≤ rOf h bs k ∧ rOf h bs k ≤ 1000000 := by
  have e1 := rOf_one h bs
  have e2 := rOf_two h bs
  have e3 := rOf_three h bs
  have hcases : k = 1 ∨ k = 2 ∨ k = 3 := by omega
  rcases hcases with rfl | rfl | rfl
  · omega
  · have c1 := hc 1 (by omega) (by omega)
    omega
  · have c1 := hc 1 (by omega) (by omega)
    have c2 := hc 2 (by omega) (by omega)
    omega

theorem encLen (r : Int) (h : mayP r) : ((encodeRuneZ r).length = 1 ∧ r < 128) ∨ ((encodeRuneZ r).length = 2 ∧ 128 ≤ r ∧ r < 2048) ∨ ((encodeRuneZ r).length = 3 ∧ 2048 ≤ r ∧ r < 65536) ∨ ((encodeRuneZ r).length = 4 ∧ 65536 ≤ r) := by
  obtain ⟨h0, h1, h2⟩ := h
  have hcases : r < 128 ∨ (128 ≤ r ∧ r < 2048) ∨ (2048 ≤ r ∧ r < 65536) ∨ 65536 ≤ r := by omega
  rcases hcases with h | ⟨h, h'⟩ | ⟨h, h'⟩ | h
  · exact .inl ⟨by rw [encodeRuneZ_one (by omega) (by omega)]; rfl, h⟩
  · exact .inr (.inl ⟨by rw [encodeRuneZ_two (by omega) (by omega)]; rfl, h, h'⟩)
  · exact .inr (.inr (.inl ⟨by rw [encodeRuneZ_three (by omega)]; rfl, h, h'⟩))
  · exact .inr (.inr (.inr ⟨by rw [encodeRuneZ_four (by omega) (by omega)]; rfl, h⟩))

theorem bl_getD (bs : List Int) (j : Nat) (hb : ∀ b ∈ bs, 0 ≤ b ∧ b < 256) : (((bl bs).getD j 0).toNat : Int) = bs.getD j 0 := by
  by_cases hj : j < bs.length
  · have hm : bs[j] ∈ bs := List.getElem_mem hj
    have := hb _ hm
    have e : (bl bs).getD j 0 = UInt8.ofNat (bs[j]).toNat := by
      show (bs.map fun n => UInt8.ofNat n.toNat).getD j 0 = _
      simp [List.getD, hj]
    rw [e]
    simp [List.getD, hj]
    omega
  · have e : (bl bs).getD j 0 = 0 := by
      show (bs.map fun n => UInt8.ofNat n.toNat).getD j 0 = _
      simp [List.getD, hj]
    rw [e]
    simp [List.getD, hj]

/-- What the document's next gives: the decoder's answer, or nothing. -/
def nextGives (bs : List Int) : Int × Int := if (decodeL (bl bs)).1 = 65533 ∧ (decodeL (bl bs)).2 = 1 then (0, 0) else ((decodeL (bl bs)).1, (decodeL (bl bs)).2)

/-- The class of a lead byte: how many bytes, and the first number. -/
def lead (b0 : Int) (n : Nat) (h : Int) : Prop := (b0 < 128 ∧ n = 1 ∧ h = b0) ∨ (192 ≤ b0 ∧ b0 < 224 ∧ n = 2 ∧ h = b0 - 192) ∨ (224 ≤ b0 ∧ b0 < 240 ∧ n = 3 ∧ h = b0 - 224) ∨ (240 ≤ b0 ∧ n = 4 ∧ h = b0 - 240)

set_option maxHeartbeats 2000000 in
theorem next_good (bs : List Int) (hb : ∀ b ∈ bs, 0 ≤ b ∧ b < 256) (hne : 0 < bs.length) (n : Nat) (h : Int) (hl : lead (bs.getD 0 0) n h) (hn : n ≤ bs.length) (hc : contTo bs n)
    (hm : mayP (rOf h bs n)) (he : (encodeRuneZ (rOf h bs n)).length = n) : nextGives bs = (rOf h bs n, (n : Int)) := by
  have g0 := bl_getD bs 0 hb
  have g1 := bl_getD bs 1 hb
  have g2 := bl_getD bs 2 hb
  have g3 := bl_getD bs 3 hb
  have e1 := rOf_one h bs
  have e2 := rOf_two h bs
  have e3 := rOf_three h bs
  have e4 := rOf_four h bs
  have en := encLen _ hm
  have key : decodeL (bl bs) = ((rOf h bs n).toNat, n) := by
    rw [decodeL_N, bl_len]
    generalize ((bl bs).getD 0 0).toNat = b0 at *
    generalize ((bl bs).getD 1 0).toNat = b1 at *
    generalize ((bl bs).getD 2 0).toNat = b2 at *
    generalize ((bl bs).getD 3 0).toNat = b3 at *
    obtain ⟨m0, m1, m2⟩ := hm
    rcases hl with ⟨l1, rfl, l2⟩ | ⟨l1, l3, rfl, l2⟩ | ⟨l1, l3, rfl, l2⟩ | ⟨l1, rfl, l2⟩
    · unfold decodeN
      rw [if_pos (by omega)]
      congr 1
      omega
    · have c1 := hc 1 (by omega) (by omega)
      unfold decodeN
      rw [if_neg (by omega), if_pos (by omega), if_pos (by omega)]
      congr 1
      omega
    · have c1 := hc 1 (by omega) (by omega)
      have c2 := hc 2 (by omega) (by omega)
      unfold decodeN
      rw [if_neg (by omega), if_neg (by omega), if_pos (by omega), if_pos (by omega)]
      congr 1
      omega
    · have c1 := hc 1 (by omega) (by omega)
      have c2 := hc 2 (by omega) (by omega)
      have c3 := hc 3 (by omega) (by omega)
      unfold decodeN
      rw [if_neg (by omega), if_neg (by omega), if_neg (by omega), if_pos (by omega), if_pos (by omega)]
      congr 1
      omega
  unfold nextGives
  rw [key, if_neg]
  · show (((rOf h bs n).toNat : Int), (n : Int)) = _
    rw [Int.toNat_of_nonneg hm.1]
  · rintro ⟨q1, q2⟩
    dsimp only at q1 q2
    omega

theorem next_none_of (bs : List Int) (h : decodeL (bl bs) = (65533, 1)) : nextGives bs = (0, 0) := by
  unfold nextGives
  rw [h, if_pos ⟨rfl, rfl⟩]

/-- A byte from 128 on that leads nothing. -/
theorem next_alone (bs : List Int) (hb : ∀ b ∈ bs, 0 ≤ b ∧ b < 256) (h : 128 ≤ bs.getD 0 0) (h' : bs.getD 0 0 < 192) : nextGives bs = (0, 0) := by
  refine next_none_of bs ?_
  have g0 := bl_getD bs 0 hb
  rw [decodeL_N]
  exact decodeN_cont _ _ _ _ _ (by omega)

set_option maxHeartbeats 2000000 in
/-- Too short, or a byte that does not go on, or a number that may not be, or in another form. -/
theorem next_bad (bs : List Int) (hb : ∀ b ∈ bs, 0 ≤ b ∧ b < 256) (hne : 0 < bs.length) (n : Nat) (h : Int) (hl : lead (bs.getD 0 0) n h)
    (hbad : bs.length < n ∨ (∃ j, 1 ≤ j ∧ j < n ∧ (bs.getD j 0 < 128 ∨ 191 < bs.getD j 0)) ∨ (contTo bs n ∧ (¬ mayP (rOf h bs n) ∨ (encodeRuneZ (rOf h bs n)).length ≠ n))) : nextGives bs = (0, 0) := by
  refine next_none_of bs ?_
  have g0 := bl_getD bs 0 hb
  have g1 := bl_getD bs 1 hb
  have g2 := bl_getD bs 2 hb
  have g3 := bl_getD bs 3 hb
  have e1 := rOf_one h bs
  have e2 := rOf_two h bs
  have e3 := rOf_three h bs
  have e4 := rOf_four h bs
  have k0 := ((bl bs).getD 0 0).toNat_lt
  have k1 := ((bl bs).getD 1 0).toNat_lt
  have k2 := ((bl bs).getD 2 0).toNat_lt
  have k3 := ((bl bs).getD 3 0).toNat_lt
  have en : mayP (rOf h bs n) → _ := encLen (rOf h bs n)
  rw [decodeL_N, bl_len]
  have hbad' : bs.length < n ∨ (1 < n ∧ (bs.getD 1 0 < 128 ∨ 191 < bs.getD 1 0)) ∨ (2 < n ∧ (bs.getD 2 0 < 128 ∨ 191 < bs.getD 2 0)) ∨ (3 < n ∧ (bs.getD 3 0 < 128 ∨ 191 < bs.getD 3 0)) ∨ (contTo bs n ∧ (¬ mayP (rOf h bs n) ∨ (encodeRuneZ (rOf h bs n)).length ≠ n)) := by
    rcases hbad with b | ⟨j, j1, j2, b⟩ | b
    · exact .inl b
    · have hj : j = 1 ∨ j = 2 ∨ j = 3 := by
        rcases hl with ⟨_, rfl, _⟩ | ⟨_, _, rfl, _⟩ | ⟨_, _, rfl, _⟩ | ⟨_, rfl, _⟩ <;> omega
      rcases hj with rfl | rfl | rfl
      · exact .inr (.inl ⟨j2, b⟩)
      · exact .inr (.inr (.inl ⟨j2, b⟩))
      · exact .inr (.inr (.inr (.inl ⟨j2, b⟩)))
    · exact .inr (.inr (.inr (.inr b)))
  clear hbad
  generalize ((bl bs).getD 0 0).toNat = b0 at *
  generalize ((bl bs).getD 1 0).toNat = b1 at *
  generalize ((bl bs).getD 2 0).toNat = b2 at *
  generalize ((bl bs).getD 3 0).toNat = b3 at *
  have hlast : contTo bs n → (∀ j, 1 ≤ j → j < n → 128 ≤ bs.getD j 0 ∧ bs.getD j 0 ≤ 191) := fun h => h
  have hform : (¬ mayP (rOf h bs n) ∨ (encodeRuneZ (rOf h bs n)).length ≠ n) → ((rOf h bs n < 0 ∨ 1114111 < rOf h bs n ∨ (55296 ≤ rOf h bs n ∧ rOf h bs n ≤ 57343)) ∨ (n = 1 ∧ 128 ≤ rOf h bs n) ∨ (n = 2 ∧ (rOf h bs n < 128 ∨ 2048 ≤ rOf h bs n)) ∨ (n = 3 ∧ (rOf h bs n < 2048 ∨ 65536 ≤ rOf h bs n)) ∨ (n = 4 ∧ rOf h bs n < 65536)) := by
    intro hh
    by_cases hm : mayP (rOf h bs n)
    · have h2 := en hm
      obtain ⟨m0, m1, m2⟩ := hm
      have h3 : (encodeRuneZ (rOf h bs n)).length ≠ n := by
        rcases hh with hh | hh
        · exact absurd ⟨m0, m1, m2⟩ hh
        · exact hh
      have hn4 : n = 1 ∨ n = 2 ∨ n = 3 ∨ n = 4 := by
        rcases hl with ⟨_, rfl, _⟩ | ⟨_, _, rfl, _⟩ | ⟨_, _, rfl, _⟩ | ⟨_, rfl, _⟩ <;> omega
      omega
    · left
      unfold mayP at hm
      omega
  rcases hl with ⟨l1, rfl, l2⟩ | ⟨l1, l3, rfl, l2⟩ | ⟨l1, l3, rfl, l2⟩ | ⟨l1, rfl, l2⟩
  · exfalso
    rcases hbad' with b | b | b | b | ⟨b1, b2⟩
    · omega
    · omega
    · omega
    · omega
    · have := hform b2
      omega
  · unfold decodeN
    rcases hbad' with b | b | b | b | ⟨b1, b2⟩
    · repeat' split
      all_goals first | rfl | (exfalso; omega)
    · repeat' split
      all_goals first | rfl | (exfalso; omega)
    · omega
    · omega
    · have c1 := b1 1 (by omega) (by omega)
      have := hform b2
      repeat' split
      all_goals first | rfl | (exfalso; omega)
  · unfold decodeN
    rcases hbad' with b | b | b | b | ⟨b1, b2⟩
    · repeat' split
      all_goals first | rfl | (exfalso; omega)
    · repeat' split
      all_goals first | rfl | (exfalso; omega)
    · repeat' split
      all_goals first | rfl | (exfalso; omega)
    · omega
    · have c1 := b1 1 (by omega) (by omega)
      have c2 := b1 2 (by omega) (by omega)
      have := hform b2
      repeat' split
      all_goals first | rfl | (exfalso; omega)
  · unfold decodeN
    rcases hbad' with b | b | b | b | ⟨b1, b2⟩
    · repeat' split
      all_goals first | rfl | (exfalso; omega)
    · repeat' split
      all_goals first | rfl | (exfalso; omega)
    · repeat' split
      all_goals first | rfl | (exfalso; omega)
    · repeat' split
      all_goals first | rfl | (exfalso; omega)
    · have c1 := b1 1 (by omega) (by omega)
      have c2 := b1 2 (by omega) (by omega)
      have c3 := b1 3 (by omega) (by omega)
      have := hform b2
      repeat' split
      all_goals first | rfl | (exfalso; omega)
end Go.Proofs.YtiobcifpebehnaaDoor

/- A10 -/
namespace Go.Proofs.YtiobcifpebehnaaDoor
open Go.RowKit
set_option linter.unusedVariables false

def NextPost (bs : List Int) (w : World) (e : Ending) (w' : World) : Prop :=
  Below w.heap.size w w' ∧ ∃ a b, nextGives bs = (a, b) ∧ e = .returned (.tuple #[.int .i32 a, .int .i64 b])

theorem mayB_iff (r : Int) : mayB r = true ↔ mayP r := by unfold mayB; rw [decide_eq_true_iff]; rfl

set_option maxHeartbeats 4000000 in
theorem next_any (v : Value) (bs : List Int) (w : World) (hv : Ints .u8 w v bs) (hbb : ∀ b ∈ bs, 0 ≤ b ∧ b < 256) (hpos : 0 < bs.length) (hlen : bs.length ≤ 1048576) :
    Calls Tryd.prog 70 #[v] w (NextPost bs w) := by
  rcases hv with ⟨a, cap, rfl, rfl, hm, ha⟩ | ⟨b, off, cap, rfl, _, h1, hm, hc⟩
  · simp at hpos
  · unfold maxLen at hm
    have hget : ∀ j, j < bs.length → 0 ≤ bs.getD j 0 ∧ bs.getD j 0 < 256 := fun j hj => by
      have := hbb bs[j] (List.getElem_mem hj)
      simpa [List.getD, hj] using this
    have hx0 := hget 0 hpos
    have hc0 : w.cell? ⟨b, off, none⟩ = some (.int .u8 (bs.getD 0 0)) := hc 0 hpos
    have HBAD := Lib.hid (next_bad bs hbb hpos)
    have HGOOD := Lib.hid (next_good bs hbb hpos)
    have HALONE := Lib.hid (next_alone bs hbb)
    generalize bs.getD 0 0 = x0 at hc0 hx0 HBAD HGOOD HALONE
    have hcases : (128 ≤ x0 ∧ x0 < 192) ∨ (∃ n h, lead x0 n h ∧ 0 ≤ h ∧ h ≤ 127 ∧ 1 ≤ n ∧ n ≤ 4) := by
      by_cases q : 128 ≤ x0 ∧ x0 < 192
      · exact .inl q
      · right
        unfold lead
        by_cases q1 : x0 < 128
        · exact ⟨1, x0, by omega, by omega, by omega, by omega, by omega⟩
        by_cases q2 : x0 < 224
        · exact ⟨2, x0 - 192, by omega, by omega, by omega, by omega, by omega⟩
        by_cases q3 : x0 < 240
        · exact ⟨3, x0 - 224, by omega, by omega, by omega, by omega, by omega⟩
        · exact ⟨4, x0 - 240, by omega, by omega, by omega, by omega, by omega⟩
    rcases hcases with ⟨q1, q2⟩ | ⟨n, h, hl, hh0, hh1, hn1, hn4⟩
    · have HA := Lib.hid (HALONE.out q1 q2)
      clear HALONE HBAD HGOOD hc
      go_enter Tryd.func70, Tryd.ntmps70
      go_wp2
      go_ret2
      exact ⟨Below.refl _ _, _, _, HA.out, rfl⟩
    · have HBAD2 := Lib.hid (HBAD.out n h hl)
      have HGOOD2 := Lib.hid (HGOOD.out n h hl)
      clear HBAD HGOOD HALONE
      unfold lead at hl
      rcases hl with ⟨l1, rfl, l2⟩ | ⟨l1, l3, rfl, l2⟩ | ⟨l1, l3, rfl, l2⟩ | ⟨l1, rfl, l2⟩
      · have HL := Lib.hid l2
        subst l2
        have hsh : ¬ bs.length < 1 := by omega
        · go_enter Tryd.func70, Tryd.ntmps70
          go_wp2
          go_loop [5, 6] (fun r i => ∃ k : Nat, 1 ≤ k ∧ k ≤ 1 ∧ i = .int .i64 k ∧ r = .int .i32 (rOf (h) bs k) ∧ Hid (contTo bs k)) (fun _ i => 1 - (intOf i).toNat)
          case atStart => exact ⟨1, by omega, by omega, rfl, by rw [rOf_one], fun j h1 h2 => by omega⟩
          case round =>
            obtain ⟨k, hk1, hk, rfl, rfl, hct⟩ := hrel
            by_cases hlt : k < 1
            · exact absurd hlt (by omega)
            · obtain rfl : k = 1 := by omega
              clear hc hget hc0 HL
              cases hmx : mayB (rOf (h) bs 1) with
              | false =>
                have HA := Lib.hid (HBAD2.out (.inr (.inr ⟨hct.out, .inl (fun hm => by rw [(mayB_iff _).2 hm] at hmx; cases hmx)⟩)))
                clear HBAD2 HGOOD2
                go_wp2_with (go_at_call 79; refine (rmay_any _ _).mono ?_; rintro e w' ⟨rfl, rfl⟩)
                go_ret2
                exact ⟨Below.refl _ _, _, _, HA.out, rfl⟩
              | true =>
                have HG := Lib.hid (HGOOD2.out (by omega) hct.out ((mayB_iff _).1 hmx))
                have HB := Lib.hid (fun q => HBAD2.out (.inr (.inr ⟨hct.out, .inr q⟩)))
                clear HBAD2 HGOOD2
                go_wp2_with (first
                  | (go_at_call 79; refine (rmay_any _ _).mono ?_; rintro e w' ⟨rfl, rfl⟩)
                  | (go_at_call 80; refine (one_any _ _ hmx).mono ?_))
                rintro e w0 ⟨hb0, g, m, rfl, hm4, hone⟩
                clear hone
                by_cases hmn : m = 1
                · have HA := Lib.hid (HG.out (by rw [← hm4]; exact hmn))
                  clear HG HB hm4
                  subst hmn
                  go_wp2
                  go_ret2
                  exact ⟨hb0, _, _, HA.out, rfl⟩
                · have HA := Lib.hid (HB.out (by rw [← hm4]; exact hmn))
                  have hq1 : ((m : Int) != 1) = true := by rw [bne_iff_ne]; omega
                  have hq2 : ((m : Int) == 1) = false := by rw [beq_eq_false_iff_ne]; omega
                  clear HG HB hm4
                  go_wp2
                  go_ret2
                  exact ⟨hb0, _, _, HA.out, rfl⟩
      · have HL := Lib.hid l2
        subst l2
        by_cases hsh : bs.length < 2
        · have HA := Lib.hid (HBAD2.out (.inl hsh))
          clear HBAD2 HGOOD2 hc HL
          go_enter Tryd.func70, Tryd.ntmps70
          go_wp2
          go_ret2
          exact ⟨Below.refl _ _, _, _, HA.out, rfl⟩
        · go_enter Tryd.func70, Tryd.ntmps70
          go_wp2
          go_loop [5, 6] (fun r i => ∃ k : Nat, 1 ≤ k ∧ k ≤ 2 ∧ i = .int .i64 k ∧ r = .int .i32 (rOf (x0 - 192) bs k) ∧ Hid (contTo bs k)) (fun _ i => 2 - (intOf i).toNat)
          case atStart => exact ⟨1, by omega, by omega, rfl, by rw [rOf_one], fun j h1 h2 => by omega⟩
          case round =>
            obtain ⟨k, hk1, hk, rfl, rfl, hct⟩ := hrel
            by_cases hlt : k < 2
            · have hcx := hc k (by omega)
              have hgx := hget k (by omega)
              have hsucc := Lib.hid (rOf_succ (x0 - 192) bs k hk1)
              have hrb := rOf_bound3 (x0 - 192) bs hh0 hh1 k hk1 (by omega) hct.out
              have HC := Lib.hid (contTo_succ bs k hct.out)
              have HB := Lib.hid (fun q => HBAD2.out (.inr (.inl ⟨k, hk1, hlt, q⟩)))
              generalize bs.getD k 0 = y at hcx hgx hsucc HC HB
              clear hc hget HBAD2 HGOOD2 hc0 HL
              by_cases y1 : y < 128
              · have HA := Lib.hid (HB.out (.inl y1))
                clear HB HC hsucc
                go_wp2
                go_ret2
                exact ⟨Below.refl _ _, _, _, HA.out, rfl⟩
              by_cases y2 : 191 < y
              · have HA := Lib.hid (HB.out (.inr y2))
                clear HB HC hsucc
                go_wp2
                go_ret2
                exact ⟨Below.refl _ _, _, _, HA.out, rfl⟩
              · have HC2 := Lib.hid (HC.out (by omega) (by omega))
                clear HB HC
                go_wp2
                go_round
                case rel => exact ⟨k + 1, by omega, by omega, by go_num, by rw [hsucc.out], HC2.out⟩
                case measure => simp [intOf]; omega
            · obtain rfl : k = 2 := by omega
              clear hc hget hc0 HL
              cases hmx : mayB (rOf (x0 - 192) bs 2) with
              | false =>
                have HA := Lib.hid (HBAD2.out (.inr (.inr ⟨hct.out, .inl (fun hm => by rw [(mayB_iff _).2 hm] at hmx; cases hmx)⟩)))
                clear HBAD2 HGOOD2
                go_wp2_with (go_at_call 79; refine (rmay_any _ _).mono ?_; rintro e w' ⟨rfl, rfl⟩)
                go_ret2
                exact ⟨Below.refl _ _, _, _, HA.out, rfl⟩
              | true =>
                have HG := Lib.hid (HGOOD2.out (by omega) hct.out ((mayB_iff _).1 hmx))
                have HB := Lib.hid (fun q => HBAD2.out (.inr (.inr ⟨hct.out, .inr q⟩)))
                clear HBAD2 HGOOD2
                go_wp2_with (first
                  | (go_at_call 79; refine (rmay_any _ _).mono ?_; rintro e w' ⟨rfl, rfl⟩)
                  | (go_at_call 80; refine (one_any _ _ hmx).mono ?_))
                rintro e w0 ⟨hb0, g, m, rfl, hm4, hone⟩
                clear hone
                by_cases hmn : m = 2
                · have HA := Lib.hid (HG.out (by rw [← hm4]; exact hmn))
                  clear HG HB hm4
                  subst hmn
                  go_wp2
                  go_ret2
                  exact ⟨hb0, _, _, HA.out, rfl⟩
                · have HA := Lib.hid (HB.out (by rw [← hm4]; exact hmn))
                  have hq1 : ((m : Int) != 2) = true := by rw [bne_iff_ne]; omega
                  have hq2 : ((m : Int) == 2) = false := by rw [beq_eq_false_iff_ne]; omega
                  clear HG HB hm4
                  go_wp2
                  go_ret2
                  exact ⟨hb0, _, _, HA.out, rfl⟩
      · have HL := Lib.hid l2
        subst l2
        by_cases hsh : bs.length < 3
        · have HA := Lib.hid (HBAD2.out (.inl hsh))
          clear HBAD2 HGOOD2 hc HL
          go_enter Tryd.func70, Tryd.ntmps70
          go_wp2
          go_ret2
          exact ⟨Below.refl _ _, _, _, HA.out, rfl⟩
        · go_enter Tryd.func70, Tryd.ntmps70
          go_wp2
          go_loop [5, 6] (fun r i => ∃ k : Nat, 1 ≤ k ∧ k ≤ 3 ∧ i = .int .i64 k ∧ r = .int .i32 (rOf (x0 - 224) bs k) ∧ Hid (contTo bs k)) (fun _ i => 3 - (intOf i).toNat)
          case atStart => exact ⟨1, by omega, by omega, rfl, by rw [rOf_one], fun j h1 h2 => by omega⟩
          case round =>
            obtain ⟨k, hk1, hk, rfl, rfl, hct⟩ := hrel
            by_cases hlt : k < 3
            · have hcx := hc k (by omega)
              have hgx := hget k (by omega)
              have hsucc := Lib.hid (rOf_succ (x0 - 224) bs k hk1)
              have hrb := rOf_bound3 (x0 - 224) bs hh0 hh1 k hk1 (by omega) hct.out
              have HC := Lib.hid (contTo_succ bs k hct.out)
              have HB := Lib.hid (fun q => HBAD2.out (.inr (.inl ⟨k, hk1, hlt, q⟩)))
              generalize bs.getD k 0 = y at hcx hgx hsucc HC HB
              clear hc hget HBAD2 HGOOD2 hc0 HL
              by_cases y1 : y < 128
              · have HA := Lib.hid (HB.out (.inl y1))
                clear HB HC hsucc
                go_wp2
                go_ret2
                exact ⟨Below.refl _ _, _, _, HA.out, rfl⟩
              by_cases y2 : 191 < y
              · have HA := Lib.hid (HB.out (.inr y2))
                clear HB HC hsucc
                go_wp2
                go_ret2
                exact ⟨Below.refl _ _, _, _, HA.out, rfl⟩
              · have HC2 := Lib.hid (HC.out (by omega) (by omega))
                clear HB HC
                go_wp2
                go_round
                case rel => exact ⟨k + 1, by omega, by omega, by go_num, by rw [hsucc.out], HC2.out⟩
                case measure => simp [intOf]; omega
            · obtain rfl : k = 3 := by omega
              clear hc hget hc0 HL
              cases hmx : mayB (rOf (x0 - 224) bs 3) with
              | false =>
                have HA := Lib.hid (HBAD2.out (.inr (.inr ⟨hct.out, .inl (fun hm => by rw [(mayB_iff _).2 hm] at hmx; cases hmx)⟩)))
                clear HBAD2 HGOOD2
                go_wp2_with (go_at_call 79; refine (rmay_any _ _).mono ?_; rintro e w' ⟨rfl, rfl⟩)
                go_ret2
                exact ⟨Below.refl _ _, _, _, HA.out, rfl⟩
              | true =>
                have HG := Lib.hid (HGOOD2.out (by omega) hct.out ((mayB_iff _).1 hmx))
                have HB := Lib.hid (fun q => HBAD2.out (.inr (.inr ⟨hct.out, .inr q⟩)))
                clear HBAD2 HGOOD2
                go_wp2_with (first
                  | (go_at_call 79; refine (rmay_any _ _).mono ?_; rintro e w' ⟨rfl, rfl⟩)
                  | (go_at_call 80; refine (one_any _ _ hmx).mono ?_))
                rintro e w0 ⟨hb0, g, m, rfl, hm4, hone⟩
                clear hone
                by_cases hmn : m = 3
                · have HA := Lib.hid (HG.out (by rw [← hm4]; exact hmn))
                  clear HG HB hm4
                  subst hmn
                  go_wp2
                  go_ret2
                  exact ⟨hb0, _, _, HA.out, rfl⟩
                · have HA := Lib.hid (HB.out (by rw [← hm4]; exact hmn))
                  have hq1 : ((m : Int) != 3) = true := by rw [bne_iff_ne]; omega
                  have hq2 : ((m : Int) == 3) = false := by rw [beq_eq_false_iff_ne]; omega
                  clear HG HB hm4
                  go_wp2
                  go_ret2
                  exact ⟨hb0, _, _, HA.out, rfl⟩
      · have HL := Lib.hid l2
        subst l2
        by_cases hsh : bs.length < 4
        · have HA := Lib.hid (HBAD2.out (.inl hsh))
          clear HBAD2 HGOOD2 hc HL
          go_enter Tryd.func70, Tryd.ntmps70
          go_wp2
          go_ret2
          exact ⟨Below.refl _ _, _, _, HA.out, rfl⟩
        · go_enter Tryd.func70, Tryd.ntmps70
          go_wp2
          go_loop [5, 6] (fun r i => ∃ k : Nat, 1 ≤ k ∧ k ≤ 4 ∧ i = .int .i64 k ∧ r = .int .i32 (rOf (x0 - 240) bs k) ∧ Hid (contTo bs k)) (fun _ i => 4 - (intOf i).toNat)
          case atStart => exact ⟨1, by omega, by omega, rfl, by rw [rOf_one], fun j h1 h2 => by omega⟩
          case round =>
            obtain ⟨k, hk1, hk, rfl, rfl, hct⟩ := hrel
            by_cases hlt : k < 4
            · have hcx := hc k (by omega)
              have hgx := hget k (by omega)
              have hsucc := Lib.hid (rOf_succ (x0 - 240) bs k hk1)
              have hrb := rOf_bound3 (x0 - 240) bs hh0 hh1 k hk1 (by omega) hct.out
              have HC := Lib.hid (contTo_succ bs k hct.out)
              have HB := Lib.hid (fun q => HBAD2.out (.inr (.inl ⟨k, hk1, hlt, q⟩)))
              generalize bs.getD k 0 = y at hcx hgx hsucc HC HB
              clear hc hget HBAD2 HGOOD2 hc0 HL
              by_cases y1 : y < 128
              · have HA := Lib.hid (HB.out (.inl y1))
                clear HB HC hsucc
                go_wp2
                go_ret2
                exact ⟨Below.refl _ _, _, _, HA.out, rfl⟩
              by_cases y2 : 191 < y
              · have HA := Lib.hid (HB.out (.inr y2))
                clear HB HC hsucc
                go_wp2
                go_ret2
                exact ⟨Below.refl _ _, _, _, HA.out, rfl⟩
              · have HC2 := Lib.hid (HC.out (by omega) (by omega))
                clear HB HC
                go_wp2
                go_round
                case rel => exact ⟨k + 1, by omega, by omega, by go_num, by rw [hsucc.out], HC2.out⟩
                case measure => simp [intOf]; omega
            · obtain rfl : k = 4 := by omega
              clear hc hget hc0 HL
              cases hmx : mayB (rOf (x0 - 240) bs 4) with
              | false =>
                have HA := Lib.hid (HBAD2.out (.inr (.inr ⟨hct.out, .inl (fun hm => by rw [(mayB_iff _).2 hm] at hmx; cases hmx)⟩)))
                clear HBAD2 HGOOD2
                go_wp2_with (go_at_call 79; refine (rmay_any _ _).mono ?_; rintro e w' ⟨rfl, rfl⟩)
                go_ret2
                exact ⟨Below.refl _ _, _, _, HA.out, rfl⟩
              | true =>
                have HG := Lib.hid (HGOOD2.out (by omega) hct.out ((mayB_iff _).1 hmx))
                have HB := Lib.hid (fun q => HBAD2.out (.inr (.inr ⟨hct.out, .inr q⟩)))
                clear HBAD2 HGOOD2
                go_wp2_with (first
                  | (go_at_call 79; refine (rmay_any _ _).mono ?_; rintro e w' ⟨rfl, rfl⟩)
                  | (go_at_call 80; refine (one_any _ _ hmx).mono ?_))
                rintro e w0 ⟨hb0, g, m, rfl, hm4, hone⟩
                clear hone
                by_cases hmn : m = 4
                · have HA := Lib.hid (HG.out (by rw [← hm4]; exact hmn))
                  clear HG HB hm4
                  subst hmn
                  go_wp2
                  go_ret2
                  exact ⟨hb0, _, _, HA.out, rfl⟩
                · have HA := Lib.hid (HB.out (by rw [← hm4]; exact hmn))
                  have hq1 : ((m : Int) != 4) = true := by rw [bne_iff_ne]; omega
                  have hq2 : ((m : Int) == 4) = false := by rw [beq_eq_false_iff_ne]; omega
                  clear HG HB hm4
                  go_wp2
                  go_ret2
                  exact ⟨hb0, _, _, HA.out, rfl⟩
end Go.Proofs.YtiobcifpebehnaaDoor

/- A11 -/
namespace Go.Proofs.YtiobcifpebehnaaDoor
open Go.RowKit
set_option linter.unusedVariables false

theorem bl_drop (bs : List Int) (k : Nat) : bl (bs.drop k) = (bl bs).drop k := by
  show (bs.drop k).map (fun n => UInt8.ofNat n.toNat) = (bs.map fun n => UInt8.ofNat n.toNat).drop k
  rw [List.map_drop]

theorem next_facts {bs : List Int} {pos : Nat} {acc : List Int} {a c : Int} (hp : pos < bs.length) (hacc : (readL ((bl bs).drop pos)).map (fun t => acc ++ t) = readL (bl bs)) (h : nextGives (bs.drop pos) = (a, c)) :
    (c = 0 ∧ readL (bl bs) = none) ∨ (∃ wd : Nat, c = (wd : Int) ∧ 1 ≤ wd ∧ pos + wd ≤ bs.length ∧ 0 ≤ a ∧ a ≤ 1114111 ∧ (readL ((bl bs).drop (pos + wd))).map (fun t => (acc ++ [a]) ++ t) = readL (bl bs)) := by
  unfold nextGives at h
  rw [bl_drop] at h
  have hpl : pos < (bl bs).length := by rw [bl_len]; exact hp
  have hne : (bl bs).drop pos ≠ [] := by
    intro h0
    have := congrArg List.length h0
    rw [List.length_drop, List.length_nil] at this
    omega
  have hw := Lib.decodeL_width ((bl bs).drop pos)
  have hwl := Lib.decodeL_le _ hne
  have hr := Lib.decodeL_rune ((bl bs).drop pos)
  rw [List.length_drop, bl_len] at hwl
  split at h
  · rename_i hv
    obtain ⟨rfl, rfl⟩ := Prod.mk.inj h
    exact .inl ⟨rfl, read_off _ _ _ hpl hv hacc⟩
  · rename_i hv
    obtain ⟨rfl, rfl⟩ := Prod.mk.inj h
    exact .inr ⟨_, rfl, hw, by omega, by omega, by omega, read_on _ _ _ hpl hv hacc⟩

set_option maxHeartbeats 4000000 in
theorem rread_any (v : Value) (bs : List Int) (w : World) (hv : Ints .u8 w v bs) (hbb : ∀ b ∈ bs, 0 ≤ b ∧ b < 256) (hlen : bs.length ≤ 1048576) :
    Calls Tryd.prog 58 #[v] w (ReadPost w.heap.size bs w) := by
  obtain ⟨i0, hi, hz0, hz1, hz2⟩ := info_parts info21
  rcases hv with ⟨a, cap, rfl, rfl, hm, ha⟩ | ⟨b, off, cap, rfl, h0, h1, hm, hc⟩
  · go_enter Tryd.func58, Tryd.ntmps58
    go_wp2
    refine wp_loop_rounds 1 ?_
    rw [rounds_succ]
    go_wp2
    go_ret2
    exact ⟨Below.refl _ _, .inl ⟨[], _, _, rfl, rfl, World.ownsRow_nil _ _ _ _⟩⟩
  · have hmm := hm
    unfold maxLen at hm
    obtain ⟨B, hB⟩ : ∃ B, w.heap.size = B := ⟨_, rfl⟩
    have hbB : b < B := hB ▸ World.block_lt_of_cell? w _ (hc 0 h0)
    have HB := Lib.hid hB
    rw [hB]
    have hBle : B ≤ w.heap.size := by omega
    clear hB
    go_enter Tryd.func58, Tryd.ntmps58
    go_wp2
    go_loopw [4, 5] (fun v i wr => ∃ (pos : Nat) (acc : List Int) (n : Nat), i = .int .i64 pos ∧ wr.ownsRow B 21 1 v n (acc.map (Value.int .i32)) ∧ Below B w wr ∧ Hid ((readL ((bl bs).drop pos)).map (fun t => acc ++ t) = readL (bl bs)) ∧ acc.length ≤ pos ∧ pos ≤ bs.length) (fun _ i _ => bs.length - (intOf i).toNat)
    case atStart => exact ⟨0, [], 0, rfl, World.ownsRow_nil _ _ _ _, Below.refl _ _, by simp [Hid], by simp, by omega⟩
    case round =>
      obtain ⟨pos, acc, n, rfl, hown, hb, hacc, hal, hps⟩ := hrel
      have hsz := hb.size
      have hn : n ≤ 1048576 := by have e := hown.1; simp at e; omega
      by_cases hlt : pos < bs.length
      · have hc' : ∀ j, j < bs.length → wr.cell? ⟨b, off + j, none⟩ = some (.int .u8 (bs.getD j 0)) := fun j hj => (hb.cell (p := ⟨b, off + j, none⟩) hbB).trans (hc j hj)
        have hcut := Ints.cut hlt h1 hmm hc'
        have hbd : ∀ x ∈ bs.drop pos, 0 ≤ x ∧ x < 256 := fun x hx => hbb x (List.mem_of_mem_drop hx)
        have hnext := next_any _ (bs.drop pos) wr hcut hbd (by rw [List.length_drop]; omega) (by rw [List.length_drop]; omega)
        have hcp : pos < cap := by omega
        have hcp2 : ¬ cap = pos := by omega
        have HF := Lib.hid (fun a c => @next_facts bs pos acc a c hlt hacc.out)
        clear hc hc' hcut hbd hbb
        have HN := Lib.hid hnext
        clear hnext
        go_wp2_with (go_at_call 70; refine HN.out.mono ?_)
        rintro e w0 ⟨hb0, a, c, hg, rfl⟩
        have hb2 : Below B w w0 := hb.trans (hb0.mono (by omega))
        have hown0 := owns_below hown hb0
        have hsz0 := hb0.size
        rcases HF.out a c hg with ⟨rfl, hno⟩ | ⟨wd, rfl, hwd, hwl, ha0, ha1, hrel2⟩
        · have HNO := Lib.hid hno
          clear hno hg HF hown hown0
          go_wp2
          go_ret2
          exact ⟨HB.out.symm ▸ hb2, .inr ⟨HNO.out, rfl⟩⟩
        · have HR := Lib.hid hrel2
          have hq1 : ((wd : Int) == 0) = false := by rw [beq_eq_false_iff_ne]; omega
          clear hrel2 hg HF hown
          go_wp2_with (at_builtin; refine wpList_append_own _ rfl _ _ 104 rfl B 21 i0 (.int .i32 0) 1 4 Tryd.underlying104 hi hz0 hz1 hz2 rfl (by decide) _ _ _ rfl (hown0.alloc _) ⟨w0.heap.size, 0, none⟩ 1 1 [.int .i32 a] rfl rfl (cell_new _ _ _) (by intro u hu; simp at hu; subst hu; rfl) (by unfold maxLen; omega) (by omega) (by simp; omega) ?_; intro v' w1 hown1 hgrow1 _)
          have hb3 : Below B w w1 := (hb2.alloc (by omega) _).grown hgrow1 (by simp; omega) (fun j hj => (hown0.lt j hj).1)
          clear hgrow1 hown0 hb0
          go_wp2
          go_roundw
          case rel => exact ⟨pos + wd, acc ++ [a], n + 1, by go_num, by simpa using hown1, hb3, HR, by simp; omega, hwl⟩
          case measure => simp [intOf]; omega
      · have HR := Lib.hid (read_end (bl bs) pos acc (by rw [bl_len]; exact hlt) hacc.out)
        go_wp2
        go_ret2
        exact ⟨HB.out.symm ▸ hb, .inl ⟨acc, _, _, HR.out, rfl, hown⟩⟩
end Go.Proofs.YtiobcifpebehnaaDoor

/- L2 -/
namespace Go.Proofs.YtiobcifpebehnaaDoor
open Go.RowKit
set_option linter.unusedVariables false

def bOut (xs : List Int) : List Int := if allMay xs then utfZ xs else []
def bErr (xs : List Int) : Int := if allMay xs then 0 else 3
def rOut (bs : List Int) : List Int := (readL (bl bs)).getD []
def rErr (bs : List Int) : Int := if (readL (bl bs)).isSome then 0 else 3

def BOut (xs : List Int) (w : World) (e : Ending) (w' : World) : Prop := Below w.heap.size w w' ∧ ∃ v, e = .returned (.tuple #[v, .int .i64 (bErr xs)]) ∧ Ints .u8 w' v (bOut xs)
def ROut (bs : List Int) (w : World) (e : Ending) (w' : World) : Prop := Below w.heap.size w w' ∧ ∃ v, e = .returned (.tuple #[v, .int .i64 (rErr bs)]) ∧ Ints .i32 w' v (rOut bs)

theorem bytes_out {B : Nat} {xs : List Int} {w w' : World} {e : Ending} (h : BytesPost B xs w e w') : BOut xs w e w' := by
  obtain ⟨hb, ⟨hm, v, n, rfl, hown⟩ | ⟨hm, rfl⟩⟩ := h
  · refine ⟨hb, v, by simp [bErr, hm], ?_⟩
    have := (Ints.of_owns hown).1
    simpa [bOut, hm] using this
  · refine ⟨hb, _, by simp [bErr, hm]; rfl, ?_⟩
    simpa [bOut, hm] using ints_nil .u8 w'
theorem read_out {B : Nat} {bs : List Int} {w w' : World} {e : Ending} (h : ReadPost B bs w e w') : ROut bs w e w' := by
  obtain ⟨hb, ⟨rs, v, n, hm, rfl, hown⟩ | ⟨hm, rfl⟩⟩ := h
  · refine ⟨hb, v, by simp [rErr, hm], ?_⟩
    have := (Ints.of_owns hown).1
    simpa [rOut, hm] using this
  · refine ⟨hb, _, by simp [rErr, hm]; rfl, ?_⟩
    simpa [rOut, hm] using ints_nil .i32 w'
end Go.Proofs.YtiobcifpebehnaaDoor
