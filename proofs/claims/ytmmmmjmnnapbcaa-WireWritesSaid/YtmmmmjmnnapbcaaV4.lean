import Derived.Test.YtmmmmjmnnapbcaaV3
namespace Go.Proofs.Ytmmmmjmnnapbcaa
open Go.RowKit
set_option linter.unusedVariables false

def numOf (bs : List Int) : Nat := match dec64 bs with | none => 0 | some (n, _) => n
def sizeOf64 (bs : List Int) : Nat := match dec64 bs with | none => 0 | some (_, s) => s


theorem pow_seven (k : Nat) : (2 : Int) ^ (7 * k) = ((128 ^ k : Nat) : Int) := by
  rw [Int.pow_mul]
  simp
theorem pow_pos7 (k : Nat) : 0 < 128 ^ k := Nat.pow_pos (by omega)
/-- A digit's bits lie above those of the digits ahead of it. -/
theorem or_above (k acc D : Nat) (hk : k < 10) (hacc : acc < 128 ^ k) (hP : D * 128 ^ k < 18446744073709551616) :
    bits .or .u64 (acc : Int) ((D * 128 ^ k : Nat) : Int) = ((acc + D * 128 ^ k : Nat) : Int) ∧ acc + D * 128 ^ k < 18446744073709551616 := by
  have e : (128 : Nat) ^ k = 2 ^ (7 * k) := by rw [Nat.pow_mul]
  have h2 : acc + D * 128 ^ k < 18446744073709551616 := by
    have h64 : (18446744073709551616 : Nat) = 2 ^ (64 - 7 * k) * 128 ^ k := by
      rw [e, ← Nat.pow_add]
      have : 64 - 7 * k + 7 * k = 64 := by omega
      rw [this]
    have hD : D < 2 ^ (64 - 7 * k) := by
      rw [h64] at hP
      exact Nat.lt_of_mul_lt_mul_right hP
    have hD1 : (D + 1) * 128 ^ k ≤ 2 ^ (64 - 7 * k) * 128 ^ k := Nat.mul_le_mul_right _ hD
    rw [Nat.add_mul, Nat.one_mul, ← h64] at hD1
    omega
  refine ⟨?_, h2⟩
  rw [u64_or _ _ (by omega) (by omega) (by omega) (by omega)]
  have h := Nat.two_pow_add_eq_or_of_lt (i := 7 * k) (b := acc) (by rw [← e]; exact hacc) D
  rw [Int.toNat_natCast, Int.toNat_natCast, Nat.or_comm, Nat.add_comm acc, Nat.mul_comm D, e, h]

theorem first_none {bs : List Int} (h : dec64 bs = none) : numOf bs = 0 ∧ sizeOf64 bs = 0 := by simp [numOf, sizeOf64, h]
theorem first_some {bs : List Int} {n s : Nat} (h : dec64 bs = some (n, s)) : numOf bs = n ∧ sizeOf64 bs = s := by simp [numOf, sizeOf64, h]
theorem first_end (bs : List Int) (k acc : Nat) (hk : k ≤ 10) (hkl : k ≤ bs.length) (h : ¬ (k < bs.length ∧ k < 10)) (hdec : dec bs = lift k acc (dec (bs.drop k))) : dec64 bs = none := by
  refine dec64_none bs fun n s hn => ?_
  rw [hdec] at hn
  by_cases h10 : k = 10
  · subst h10
    have := (lift_big _ _ _ _ _ hn).2 (by omega)
    exact Nat.le_trans (by decide) this
  · rw [List.drop_of_length_le (by omega)] at hn
    simp [dec, lift] at hn

/-- What a round of first does, in numbers: the digit, the digit shifted, and what is left to be told. -/
theorem first_round (bs : List Int) (k acc : Nat) (hbb : ∀ b ∈ bs, 0 ≤ b ∧ b < 256) (hlt : k < bs.length) (hk : k < 10) (hacc : acc < 128 ^ k) (hdec : dec bs = lift k acc (dec (bs.drop k))) :
    ∃ D S : Nat, IntKind.u64.wrap (bits .and .u8 (bs.getD k 0) 127) = (D : Int) ∧ IntKind.u64.wrap ((D : Int) * 2 ^ (7 * k)) = (S : Int) ∧
      ((((S : Int) / 2 ^ (7 * k) != (D : Int)) = true ∧ dec64 bs = none) ∨
       ∃ R : Nat, ((S : Int) / 2 ^ (7 * k) != (D : Int)) = false ∧ bits .or .u64 (acc : Int) (S : Int) = (R : Int) ∧ Fits R ∧
        ((128 ≤ bs.getD k 0 ∧ Hid (R < 128 ^ (k + 1)) ∧ Hid (dec bs = lift (k + 1) R (dec (bs.drop (k + 1))))) ∨
         (bs.getD k 0 < 128 ∧ (bs.getD k 0 == 0) = true ∧ (0 : Int) < k ∧ Hid (dec64 bs = none)) ∨
         (bs.getD k 0 < 128 ∧ (bs.getD k 0 == 0) = false ∧ Hid (dec64 bs = some (R, k + 1))) ∨
         (bs.getD k 0 < 128 ∧ (bs.getD k 0 == 0) = true ∧ ¬ (0 : Int) < k ∧ Hid (dec64 bs = some (R, k + 1))))) := by
  have hx := hbb bs[k] (List.getElem_mem hlt)
  have hxe : bs[k] = bs.getD k 0 := by simp [List.getD, hlt]
  rw [hxe] at hx
  rw [drop_cons bs k hlt] at hdec
  generalize bs.getD k 0 = x at hx hdec
  have hA : bits .and .u8 x 127 = ((x.toNat % 128 : Nat) : Int) := by
    rw [u8_and _ _ (by omega) (by omega) (by omega) (by omega)]
    have := Nat.and_two_pow_sub_one_eq_mod x.toNat 7
    simpa using congrArg (Nat.cast (R := Int)) this
  have hT := pow_pos7 k
  refine ⟨x.toNat % 128, (x.toNat % 128 * 128 ^ k) % 18446744073709551616, ?_, ?_, ?_⟩
  · rw [hA, IntKind.wrap_u64]; omega
  · rw [pow_seven, IntKind.wrap_u64, ← Int.natCast_mul]; omega
  by_cases hP : x.toNat % 128 * 128 ^ k < 18446744073709551616
  · right
    obtain ⟨ho, hf⟩ := or_above k acc _ hk hacc hP
    rw [Nat.mod_eq_of_lt hP]
    refine ⟨_, ?_, ho, hf, ?_⟩
    · rw [pow_seven, bne_eq_false_iff_eq, ← Int.natCast_ediv, Nat.mul_div_cancel _ hT]
    · by_cases h128 : 128 ≤ x
      · left
        have e : x.toNat % 128 = (x - 128).toNat := by omega
        refine ⟨h128, ?_, ?_⟩
        · show _ < _
          rw [Nat.pow_succ]
          have : x.toNat % 128 * 128 ^ k ≤ 127 * 128 ^ k := Nat.mul_le_mul_right _ (by omega)
          omega
        · show _ = _
          rw [hdec, lift_on _ _ _ _ h128, e]
      · right
        have e : x.toNat % 128 = x.toNat := by omega
        rw [lift_last k acc x _ hx.1 (by omega)] at hdec
        by_cases h0 : x = 0 ∧ 0 < k
        · left
          rw [if_pos h0] at hdec
          exact ⟨by omega, by rw [beq_iff_eq]; exact h0.1, by omega, dec64_none bs fun n s hn => by rw [hdec] at hn; cases hn⟩
        · right
          rw [if_neg h0] at hdec
          have hs : dec64 bs = some (acc + x.toNat % 128 * 128 ^ k, k + 1) := dec64_some bs _ _ (by rw [hdec, e, Nat.mul_comm]) hf
          by_cases hx0 : x = 0
          · exact .inr ⟨by omega, by rw [beq_iff_eq]; exact hx0, by omega, hs⟩
          · exact .inl ⟨by omega, by rw [beq_eq_false_iff_ne]; exact hx0, hs⟩
  · left
    refine ⟨?_, ?_⟩
    · rw [pow_seven, bne_iff_ne, ne_eq, ← Int.natCast_ediv]
      intro he
      have he2 : (x.toNat % 128 * 128 ^ k) % 18446744073709551616 / 128 ^ k = x.toNat % 128 := by omega
      have h1 : (x.toNat % 128 * 128 ^ k) % 18446744073709551616 < x.toNat % 128 * 128 ^ k := Nat.lt_of_lt_of_le (Nat.mod_lt _ (by omega)) (by omega)
      have h2 := (Nat.div_lt_iff_lt_mul hT).2 h1
      omega
    · refine dec64_none bs fun n s hn => ?_
      rw [hdec] at hn
      by_cases h128 : 128 ≤ x
      · rw [lift_on _ _ _ _ h128] at hn
        have := (lift_big _ _ _ _ _ hn).1
        have e : x.toNat % 128 = (x - 128).toNat := by omega
        rw [e] at hP
        omega
      · rw [lift_last k acc x _ hx.1 (by omega)] at hn
        split at hn
        · cases hn
        · simp only [Option.some.injEq, Prod.mk.injEq] at hn
          have e : x.toNat % 128 = x.toNat := by omega
          rw [e, Nat.mul_comm] at hP
          omega

set_option maxHeartbeats 1000000 in
set_option maxRecDepth 100000 in
theorem first_any (v : Value) (bs : List Int) (w : World) (hv : Ints .u8 w v bs) (hbb : ∀ b ∈ bs, 0 ≤ b ∧ b < 256) :
    Calls Try.prog 25 #[v] w fun e w' => e = .returned (.tuple #[.int .u64 (numOf bs), .int .i64 (sizeOf64 bs)]) ∧ w = w' := by
  rcases hv with ⟨a, cap, rfl, rfl, hm, _⟩ | ⟨b, off, cap, rfl, h0, h1, hm, hc⟩
  · go_enter Try.func25, Try.ntmps25
    go_wp2
    refine wp_loop_rounds 1 ?_
    rw [rounds_succ]
    go_wp2
    go_ret2
    exact ⟨rfl, rfl⟩
  · unfold maxLen at hm
    obtain ⟨L, hL, hL1, hL2⟩ : ∃ L : Nat, ((bs.length ≤ 10 ∧ L = bs.length) ∨ (10 < bs.length ∧ L = 10)) ∧ L ≤ bs.length ∧ L ≤ 10 := by
      by_cases h : bs.length ≤ 10
      · exact ⟨bs.length, .inl ⟨h, rfl⟩, by omega, by omega⟩
      · exact ⟨10, .inr ⟨by omega, rfl⟩, by omega, by omega⟩
    have HBB := Lib.hid hbb
    clear hbb
    rcases hL with ⟨hlen, rfl⟩ | ⟨hlen, rfl⟩
    all_goals
      go_enter Try.func25, Try.ntmps25
      go_wp2
      go_loop [2, 3, 14] (fun n s i => ∃ (k acc : Nat), i = .int .i64 k ∧ n = .int .u64 acc ∧ s = .int .i64 0 ∧ k ≤ 10 ∧ k ≤ bs.length ∧ Hid (acc < 128 ^ k) ∧ Fits acc ∧ Hid (dec bs = lift k acc (dec (bs.drop k)))) (fun _ _ i => 10 - (intOf i).toNat)
      case atStart => exact ⟨0, 0, rfl, rfl, rfl, by omega, by omega, by simp [Hid], by simp [Fits], by simp [Hid, lift_start]⟩
      case round =>
        obtain ⟨k, acc, rfl, rfl, rfl, hk, hkl, hacc, hfit, hdec⟩ := hrel
        by_cases hlt : k < bs.length ∧ k < 10
        · obtain ⟨hlt, hlt10⟩ := hlt
          have hcx := hc k hlt
          clear hc
          have HF := Lib.hid (first_round bs k acc HBB.out hlt hlt10 hacc.out hdec.out)
          have hx0 := (HBB.out _ (List.getElem_mem hlt))
          have hxe : bs[k] = bs.getD k 0 := by simp [List.getD, hlt]
          rw [hxe] at hx0
          clear hxe
          generalize bs.getD k 0 = x at hcx HF hx0
          obtain ⟨D, S, hD, hS, hcases⟩ := HF.out
          clear HF
          rcases hcases with ⟨hne, hnone⟩ | ⟨R, heq, hR, hfitR, hcase⟩
          · have HN := Lib.hid (first_none hnone)
            clear hnone
            go_wp2
            go_ret2
            rw [HN.out.1, HN.out.2]
            exact ⟨rfl, rfl⟩
          · rcases hcase with ⟨hx, haccR, hdecR⟩ | ⟨hx, hx2, hx3, hnone⟩ | ⟨hx, hx2, hsome⟩ | ⟨hx, hx2, hx3, hsome⟩
            · go_wp2
              go_round
              case rel => exact ⟨k + 1, R, by go_num, rfl, rfl, by omega, by omega, haccR, hfitR, hdecR⟩
              case measure => simp [intOf]; omega
            · have HN := Lib.hid (first_none hnone.out)
              go_wp2
              go_ret2
              rw [HN.out.1, HN.out.2]
              exact ⟨rfl, rfl⟩
            · have HN := Lib.hid (first_some hsome.out)
              go_wp2
              go_ret2
              rw [HN.out.1, HN.out.2]
              exact ⟨by go_num, rfl⟩
            · have HN := Lib.hid (first_some hsome.out)
              go_wp2
              go_ret2
              rw [HN.out.1, HN.out.2]
              exact ⟨by go_num, rfl⟩
        · have HN := Lib.hid (first_none (first_end bs k acc hk hkl hlt hdec.out))
          go_wp2
          go_ret2
          rw [HN.out.1, HN.out.2]
          exact ⟨rfl, rfl⟩
end Go.Proofs.Ytmmmmjmnnapbcaa
