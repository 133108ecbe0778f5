import Derived.Test.YtmmmmjmnnapbcaaK
import Derived.Test.YtmmmmjmnnapbcaaVM1
import Derived.Laws.BitsAllLaws
namespace Go.Proofs.Ytmmmmjmnnapbcaa
open Go.RowKit
set_option linter.unusedVariables false

theorem info8 : (Try.prog.info? 5).map (fun i => (i.zero, i.size, i.bytes)) = some (some (.int .u8 0), 1, 1) := by kernel_rfl
theorem size8 : (Try.prog.info? 5).map (·.size) = some 1 := by kernel_rfl

/-- The call's own row of numbers, of which nothing older is touched. -/
def Made (xs : List Int) (w : World) (e : Ending) (w' : World) : Prop :=
  ∃ v, e = .returned v ∧ w'.ownsRow w.heap.size 5 1 v xs.length (xs.map (Value.int .u8)) ∧ Below w.heap.size w w'

set_option maxHeartbeats 1000000 in
theorem copied_any (v : Value) (bs : List Int) (m : Int) (w : World) (hv : Ints .u8 w v bs) (hlen : bs.length ≤ 1000000) (hm0 : 0 ≤ m) (hm : m ≤ 1000000) :
    Calls Try.prog 23 #[v, .int .i64 m] w (Made bs w) := by
  obtain ⟨i0, hi, hz0, hz1, hz2⟩ := info_parts info8
  have HV := Lib.hid hv
  obtain ⟨a, cap, rfl⟩ := hv.shape
  clear hv
  go_enter Try.func23, Try.ntmps23
  go_wp2_with (at_make; refine wpList_make_ints _ rfl _ _ 22 rfl w.heap.size 5 i0 .u8 Try.underlying22 hi hz0 hz1 _ _ _ _ bs.length (bs.length + m.toNat) rfl rfl (by omega) (by omega) (by omega) (by rw [hz2]; omega) (by unfold maxLen; omega) (Nat.le_refl _) ?_)
  intro w0 hown0 hgrow0
  have hb0 : Below w.heap.size w w0 := (Below.refl _ _).grown hgrow0 (Nat.le_refl _) (fun k h => by cases h)
  have hi0 := HV.out.below hb0
  go_wp2_with (with_reducible refine wpList_copy_ints rfl (.tmp 13) (.tmp 14) 22 22 rfl 5 Try.underlying22 size8 w.heap.size .u8 _ _ _ _ bs hown0 hi0 rfl rfl (Nat.le_refl _) ?_)
  intro w1 hown1 hgrow1
  have hb1 : Below w.heap.size w w1 := hb0.grown hgrow1 hb0.size (fun k hk => (hown0.lt k hk).1)
  try simp only [List.drop_of_length_le (List.length_replicate ▸ Nat.le_refl _), List.append_nil] at hown1
  go_wp2
  go_ret
  exact ⟨_, rfl, hown1, hb1⟩

/-- The call's own row from B on; below B all is as it was. -/
def Onto (B : Nat) (xs : List Int) (w : World) (e : Ending) (w' : World) : Prop :=
  ∃ v, e = .returned v ∧ w'.ownsRow B 5 1 v xs.length (xs.map (Value.int .u8)) ∧ Below B w w'

theorem digit_and (m : Nat) (hm : m < 18446744073709551616) : bits .and .u64 (m : Int) 127 = ((m % 128 : Nat) : Int) := by
  rw [u64_and _ _ (by omega) (by omega) (by omega) (by omega)]
  have := Nat.and_two_pow_sub_one_eq_mod m 7
  simpa using congrArg (Nat.cast (R := Int)) this
theorem digit_or (m : Nat) (hm : m < 18446744073709551616) : bits .or .u8 128 (bits .and .u64 (m : Int) 127 % 256) = ((m % 128 + 128 : Nat) : Int) := by
  rw [digit_and m hm, u8_or _ _ (by omega) (by omega) (by omega) (by omega)]
  have e : (((m % 128 : Nat) : Int) % 256).toNat = m % 128 := by omega
  rw [e]
  have := Nat.two_pow_add_eq_or_of_lt (i := 7) (b := m % 128) (by omega) 1
  simp only [Nat.mul_one] at this
  have h2 : (128 : Int).toNat = 2 ^ 7 := by decide
  rw [h2, ← this]
  omega

def Fits (m : Nat) : Prop := m < 18446744073709551616

set_option maxHeartbeats 1000000 in
set_option maxRecDepth 100000 in
theorem digits_any (B : Nat) (v : Value) (xs : List Int) (n : Nat) (w : World) (hown : w.ownsRow B 5 1 v xs.length (xs.map (Value.int .u8))) (hB : B ≤ w.heap.size) (hlen : xs.length ≤ 3000000) (hn : n < 18446744073709551616) :
    Calls Try.prog 22 #[v, .int .u64 n] w (Onto B (xs ++ form n) w) := by
  obtain ⟨i0, hi, hz0, hz1, hz2⟩ := info_parts info8
  have H10 := form_ten n hn
  have HN : Fits n := hn
  clear hn
  go_enter Try.func22, Try.ntmps22
  go_wp2
  go_loopw [0, 1] (fun o i wr => ∃ (m : Nat) (pre : List Int), i = .int .u64 m ∧ Fits m ∧ wr.ownsRow B 5 1 o (xs.length + pre.length) ((xs ++ pre).map (Value.int .u8)) ∧ Hid (form n = pre ++ form m) ∧ Below B w wr) (fun _ i _ => (intOf i).toNat)
  case atStart => exact ⟨n, [], rfl, HN, by simpa using hown, by simp [Hid], Below.refl _ _⟩
  case round =>
    obtain ⟨m, pre, rfl, hm, hown', hf, hb⟩ := hrel
    have hsz := hb.size
    have hpl : (xs ++ pre).length ≤ 3000010 := by
      have e := congrArg List.length hf.out
      have := form_pos m
      simp only [List.length_append] at e ⊢
      omega
    simp only [List.length_append] at hpl
    by_cases hlt : 128 ≤ m
    · have hlz : (128 : Int) ≤ m := by omega
      clear hlt
      go_wp2_with (at_builtin; refine wpList_append_ints rfl (.tmp 7) (.tmp 12) 22 rfl B 5 i0 (.int .u8 0) 1 Try.underlying22 hi hz0 hz1 hz2 rfl _ _ _ rfl (hown'.alloc _) _ .u8 _ rfl (ints_one _ _ _ _) (by unfold maxLen; simp; omega) (by simp; omega) (by simp; omega) ?_)
      intro v1 w1 hown1 hg1
      have hown2 : w1.ownsRow B 5 1 v1 (xs.length + (pre ++ [((m % 128 + 128 : Nat) : Int)]).length) ((xs ++ (pre ++ [((m % 128 + 128 : Nat) : Int)])).map (Value.int .u8)) := by
        rw [digit_or m hm] at hown1
        simpa [Nat.add_assoc] using hown1
      have hb1 : Below B w w1 := (hb.alloc (by omega) _).grown hg1 (by simp; omega) (fun k hk => (hown'.lt k hk).1)
      have hf2 : Hid (form n = (pre ++ [((m % 128 + 128 : Nat) : Int)]) ++ form (m / 128)) := by
        show form n = _
        rw [hf.out, form_big m (by omega)]
        simp
      have hm2 : Fits (m / 128) := Nat.lt_of_le_of_lt (Nat.div_le_self _ _) hm
      clear hown1 hg1 hown' hb hf
      go_wp2
      go_roundw
      case rel => exact ⟨m / 128, _, by go_num, hm2, hown2, hf2, hb1⟩
      case measure => simp [intOf]; omega
    · have hlz : (m : Int) < 128 := by omega
      go_wp2_with (at_builtin; refine wpList_append_ints rfl (.tmp 16) (.tmp 19) 22 rfl B 5 i0 (.int .u8 0) 1 Try.underlying22 hi hz0 hz1 hz2 rfl _ _ _ rfl (hown'.alloc _) _ .u8 _ rfl (ints_one _ _ _ _) (by unfold maxLen; simp; omega) (by simp; omega) (by simp; omega) ?_)
      intro v1 w1 hown1 hg1
      have hb1 : Below B w w1 := (hb.alloc (by omega) _).grown hg1 (by simp; omega) (fun k hk => (hown'.lt k hk).1)
      have hown2 : w1.ownsRow B 5 1 v1 (xs ++ form n).length ((xs ++ form n).map (Value.int .u8)) := by
        rw [hf.out, form_small m (by omega)]
        simpa [Nat.add_assoc] using hown1
      go_wp2
      go_ret
      exact ⟨_, rfl, hown2, hb1⟩
end Go.Proofs.Ytmmmmjmnnapbcaa
