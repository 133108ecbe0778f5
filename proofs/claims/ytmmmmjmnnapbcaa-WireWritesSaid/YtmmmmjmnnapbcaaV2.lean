import Derived.Test.YtmmmmjmnnapbcaaV1
namespace Go.Proofs.Ytmmmmjmnnapbcaa
open Go.RowKit
set_option linter.unusedVariables false

set_option maxHeartbeats 1000000 in
set_option maxRecDepth 100000 in
theorem appendUint_any (v : Value) (bs : List Int) (n : Nat) (w : World) (hv : Ints .u8 w v bs) (hlen : bs.length ≤ 1000000) (hn : Fits n) :
    Calls Try.prog 10 #[v, .int .u64 n] w (Made (bs ++ form n) w) := by
  have C := copied_any v bs 10 w hv hlen (by omega) (by omega)
  obtain ⟨a, cap, rfl⟩ := hv.shape
  clear hv
  go_enter Try.func10, Try.ntmps10
  go_wp2_with (go_at_call 23; refine C.mono ?_)
  rintro e w1 ⟨v1, rfl, hown, hb⟩
  have D := digits_any w.heap.size v1 bs n w1 hown hb.size (by omega) hn
  go_wp2_with (go_at_call 22; refine D.mono ?_)
  rintro e w2 ⟨v2, rfl, hown2, hb2⟩
  go_wp2
  go_ret
  exact ⟨_, rfl, hown2, hb.trans hb2⟩

theorem zig_neg_bits (i : Int) (h : i < 0) (h1 : -9223372036854775808 ≤ i) : bits .or .u64 (-(i + 1) * 2) 1 = (zig i : Int) := by
  unfold zig
  rw [if_neg (by omega), u64_or _ _ (by omega) (by omega) (by omega) (by omega)]
  have e : (-(i + 1) * 2).toNat = 2 ^ 1 * (-(i + 1)).toNat := by omega
  have := Nat.two_pow_add_eq_or_of_lt (i := 1) (b := 1) (by omega) (-(i + 1)).toNat
  rw [e]
  have h2 : (1 : Int).toNat = 1 := rfl
  rw [h2, ← this]

set_option maxHeartbeats 1000000 in
set_option maxRecDepth 100000 in
theorem naturalOf_any (i : Int) (w : World) (h1 : -9223372036854775808 ≤ i) (h2 : i ≤ 9223372036854775807) :
    Calls Try.prog 24 #[.int .i64 i] w fun e w' => e = .returned (.int .u64 (zig i)) ∧ w = w' := by
  by_cases h : i < 0
  · have Z := zig_neg_bits i h h1
    have HZ := Lib.hid Z
    clear Z
    go_enter Try.func24, Try.ntmps24
    go_wp2
    go_ret
    exact ⟨ret_int HZ.out, rfl⟩
  · have hz : (zig i : Int) = i * 2 := by unfold zig; rw [if_pos (by omega)]; omega
    rw [hz]
    clear hz
    go_enter Try.func24, Try.ntmps24
    go_wp2
    go_ret
    exact ⟨rfl, rfl⟩

set_option maxHeartbeats 1000000 in
set_option maxRecDepth 100000 in
theorem appendInt_any (v : Value) (bs : List Int) (i : Int) (w : World) (hv : Ints .u8 w v bs) (hlen : bs.length ≤ 1000000) (h1 : -9223372036854775808 ≤ i) (h2 : i ≤ 9223372036854775807) :
    Calls Try.prog 11 #[v, .int .i64 i] w (Made (bs ++ form (zig i)) w) := by
  have C := naturalOf_any i w h1 h2
  have D := appendUint_any v bs (zig i) w hv hlen (zig_lt i h1 h2)
  obtain ⟨a, cap, rfl⟩ := hv.shape
  clear hv
  go_enter Try.func11, Try.ntmps11
  go_wp2_with (go_at_call 24; refine C.mono ?_)
  rintro e w1 ⟨rfl, rfl⟩
  go_wp2_with (go_at_call 10; refine D.mono ?_)
  rintro e w2 ⟨v2, rfl, hown2, hb2⟩
  go_wp2
  go_ret
  exact ⟨_, rfl, hown2, hb2⟩

set_option maxHeartbeats 1000000 in
set_option maxRecDepth 100000 in
theorem appendBytes_any (v u : Value) (bs xs : List Int) (w : World) (hv : Ints .u8 w v bs) (hu : Ints .u8 w u xs) (hlen : bs.length ≤ 900000) (hlx : xs.length ≤ 900000) :
    Calls Try.prog 12 #[v, u] w (Made (bs ++ form xs.length ++ xs) w) := by
  obtain ⟨i0, hi, hz0, hz1, hz2⟩ := info_parts info8
  have C := copied_any v bs (10 + xs.length) w hv (by omega) (by omega) (by omega)
  have HU := Lib.hid hu
  obtain ⟨a, cap, rfl⟩ := hv.shape
  obtain ⟨a2, cap2, rfl⟩ := hu.shape
  clear hv hu
  go_enter Try.func12, Try.ntmps12
  go_wp2_with (go_at_call 23; refine C.mono ?_)
  rintro e w1 ⟨v1, rfl, hown, hb⟩
  have D := digits_any w.heap.size v1 bs xs.length w1 hown hb.size (by omega) (by omega)
  go_wp2_with (go_at_call 22; refine D.mono ?_)
  rintro e w2 ⟨v2, rfl, hown2, hb2⟩
  have hb12 := hb.trans hb2
  have hu2 := HU.out.below hb12
  have H10 := form_ten xs.length (by omega)
  have hl2 : (bs ++ form xs.length).length ≤ 1000000 := by simp; omega
  go_wp2_with (at_builtin; refine wpList_append_ints rfl (.tmp 15) (.tmp 16) 22 rfl w.heap.size 5 i0 (.int .u8 0) 1 Try.underlying22 hi hz0 hz1 hz2 rfl _ _ _ rfl hown2 _ .u8 xs rfl hu2 (by unfold maxLen; omega) (by omega) hb12.size ?_)
  intro v3 w3 hown3 hg3
  have hown4 : w3.ownsRow w.heap.size 5 1 v3 (bs ++ form xs.length ++ xs).length ((bs ++ form xs.length ++ xs).map (Value.int .u8)) := by
    simpa [Nat.add_assoc] using hown3
  have hb3 : Below w.heap.size w w3 := hb12.grown hg3 hb12.size (fun k hk => (hown2.lt k hk).1)
  go_wp2
  go_ret
  exact ⟨_, rfl, hown4, hb3⟩

set_option maxHeartbeats 1000000 in
set_option maxRecDepth 100000 in
theorem wholeOf_any (n : Nat) (w : World) (hn : Fits n) :
    Calls Try.prog 26 #[.int .u64 n] w fun e w' => e = .returned (.int .i64 (zag n)) ∧ w = w' := by
  have hand : bits .and .u64 (n : Int) 1 = ((n % 2 : Nat) : Int) := by
    unfold Fits at hn
    rw [u64_and _ _ (by omega) (by omega) (by omega) (by omega)]
    have := Nat.and_two_pow_sub_one_eq_mod n 1
    simp
  have hlt : (n : Int) / 2 ≤ 9223372036854775807 := by unfold Fits at hn; omega
  go_enter Try.func26, Try.ntmps26
  by_cases h : n % 2 = 0
  · have q1 : ((n : Int) % 2 == 1) = false := by rw [beq_eq_false_iff_ne]; omega
    go_wp2
    go_ret
    exact ⟨ret_int (by unfold zag; rw [if_pos h]; omega), rfl⟩
  · have q1 : ((n : Int) % 2 == 1) = true := by rw [beq_iff_eq]; omega
    go_wp2
    go_ret
    exact ⟨ret_int (by unfold zag; rw [if_neg h]; omega), rfl⟩

set_option maxHeartbeats 1000000 in
set_option maxRecDepth 100000 in
theorem whole_any (i : Int) (w : World) (h1 : -9223372036854775808 ≤ i) (h2 : i ≤ 9223372036854775807) :
    Calls Try.prog 14 #[.int .i64 i] w fun e w' => e = .returned (.int .u64 (zig i)) ∧ w = w' := by
  by_cases h : 0 ≤ i
  · go_enter Try.func14, Try.ntmps14
    go_wp2
    go_ret
    exact ⟨ret_int (by unfold zig; split <;> omega), rfl⟩
  · go_enter Try.func14, Try.ntmps14
    go_wp2
    go_ret
    exact ⟨ret_int (by unfold zig; split <;> omega), rfl⟩

set_option maxHeartbeats 1000000 in
set_option maxRecDepth 100000 in
theorem back_any (n : Nat) (w : World) (hn : Fits n) :
    Calls Try.prog 19 #[.int .u64 n] w fun e w' => e = .returned (.int .i64 (zag n)) ∧ w = w' := by
  have hlt : (n : Int) / 2 ≤ 9223372036854775807 := by unfold Fits at hn; omega
  by_cases h : n % 2 = 0
  · have q1 : ((n : Int) % 2 == 0) = true := by rw [beq_iff_eq]; omega
    go_enter Try.func19, Try.ntmps19
    go_wp2
    go_ret
    exact ⟨ret_int (by unfold zag; rw [if_pos h]; omega), rfl⟩
  · have q1 : ((n : Int) % 2 == 0) = false := by rw [beq_eq_false_iff_ne]; omega
    go_enter Try.func19, Try.ntmps19
    go_wp2
    go_ret
    exact ⟨ret_int (by unfold zag; rw [if_neg h]; omega), rfl⟩
end Go.Proofs.Ytmmmmjmnnapbcaa
