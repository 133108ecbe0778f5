import Derived.Test.YtmmmmjmnnapbcaaV6
namespace Go.Proofs.Ytmmmmjmnnapbcaa
open Go.RowKit
set_option linter.unusedVariables false

theorem nums_eq : ∀ (a b : List Int), (∀ x ∈ a, 0 ≤ x ∧ x < 256) → (∀ x ∈ b, 0 ≤ x ∧ x < 256) → a.map (fun n => UInt8.ofNat n.toNat) = b.map (fun n => UInt8.ofNat n.toNat) → a = b
  | [], [], _, _, _ => rfl
  | [], y :: t, _, _, h => by simp at h
  | x :: s, [], _, _, h => by simp at h
  | x :: s, y :: t, ha, hb, h => by
    simp only [List.map_cons, List.cons.injEq] at h
    have h1 := ha x (List.mem_cons_self ..)
    have h2 := hb y (List.mem_cons_self ..)
    have e := congrArg UInt8.toNat h.1
    simp only [UInt8.toNat_ofNat'] at e
    have : x = y := by omega
    rw [this, nums_eq s t (fun z hz => ha z (List.mem_cons_of_mem _ hz)) (fun z hz => hb z (List.mem_cons_of_mem _ hz)) h.2]
theorem str_eq {a b : List Int} (ha : ∀ x ∈ a, 0 ≤ x ∧ x < 256) (hb : ∀ x ∈ b, 0 ≤ x ∧ x < 256) (h : strOfNums a = strOfNums b) : a = b := by
  refine nums_eq a b ha hb ?_
  have := congrArg (fun s : ByteArray => s.data.toList) h
  simpa [strOfNums] using this

theorem ref_last (T : List Int) (k acc : Nat) (x : Int) (hT : ∀ b ∈ T, 0 ≤ b ∧ b < 256) (hk : k < T.length) (hx : T.getD k 0 = x) (hlow : x < 128) (hdec : dec T = lift k acc (dec (T.drop k))) :
    (strOfNums (form ((acc + x.toNat % 128 * 128 ^ k) % 18446744073709551616)) = strOfNums (T.take (k + 1)) ∧ dec64 T = some ((acc + x.toNat % 128 * 128 ^ k) % 18446744073709551616, k + 1)) ∨
    (strOfNums (form ((acc + x.toNat % 128 * 128 ^ k) % 18446744073709551616)) ≠ strOfNums (T.take (k + 1)) ∧ dec64 T = none) := by
  have hx0 := hT T[k] (List.getElem_mem hk)
  have hxe : T[k] = T.getD k 0 := by simp [List.getD, hk]
  rw [hxe, hx] at hx0
  generalize hm : (acc + x.toNat % 128 * 128 ^ k) % 18446744073709551616 = m
  have hm64 : m < 18446744073709551616 := by rw [← hm]; exact Nat.mod_lt _ (by omega)
  by_cases he : form m = T.take (k + 1)
  · left
    refine ⟨by rw [he], ?_⟩
    have h1 : T = form m ++ T.drop (k + 1) := by rw [he, List.take_append_drop]
    have hl := congrArg List.length he
    rw [List.length_take] at hl
    rw [h1, dec64_form m _ hm64]
    congr 2
    omega
  · right
    refine ⟨fun hs => he (str_eq (form_bytes m) (fun b hb => hT b (List.mem_of_mem_take hb)) hs), ?_⟩
    cases hd : dec64 T with
    | none => rfl
    | some ns =>
      obtain ⟨n, s⟩ := ns
      exfalso
      obtain ⟨h1, h2, h3, h4, h5, h6⟩ := dec64_take T hT n s hd
      have hd2 : dec T = some (n, s) := by
        have e : T = form n ++ T.drop s := by rw [h1, List.take_append_drop]
        rw [e, dec_form, ← h2]
      rw [drop_cons T k hk, hx, lift_last k acc x _ hx0.1 hlow, hd2] at hdec
      split at hdec
      · cases hdec
      · simp only [Option.some.injEq, Prod.mk.injEq] at hdec
        have e : x.toNat % 128 = x.toNat := by omega
        have : n = m := by
          rw [← hm, e, Nat.mul_comm, ← hdec.1, Nat.mod_eq_of_lt h5]
        rw [this, hdec.2] at h1
        exact he h1

theorem ref_next (k acc D n s : Nat) (hn : n = acc % 18446744073709551616) (hs : s = 128 ^ k % 18446744073709551616) (hD : D < 128) :
    IntKind.u64.wrap ((D : Int) * (s : Int)) = ((D * 128 ^ k % 18446744073709551616 : Nat) : Int) ∧
    IntKind.u64.wrap ((n : Int) + ((D * 128 ^ k % 18446744073709551616 : Nat) : Int)) = (((acc + D * 128 ^ k) % 18446744073709551616 : Nat) : Int) ∧
    IntKind.u64.wrap ((s : Int) * 128) = ((128 ^ (k + 1) % 18446744073709551616 : Nat) : Int) := by
  rw [IntKind.wrap_u64, IntKind.wrap_u64, IntKind.wrap_u64, ← Int.natCast_mul]
  refine ⟨?_, ?_, ?_⟩
  · rw [hs, ← Nat.mul_mod_mod D (128 ^ k)]; omega
  · rw [hn]; omega
  · rw [hs, Nat.pow_succ]; omega
end Go.Proofs.Ytmmmmjmnnapbcaa
