import Derived.Test.YtmmmmjmnnapbcaaV15
import Derived.Deep.RegionHeld
namespace Go.Proofs.Ytmmmmjmnnapbcaa
open Go.RowKit
set_option linter.unusedVariables false

theorem below_next {a b c : World} (h : Below a.heap.size a b) (k : Below b.heap.size b c) : Below a.heap.size a c := h.trans (k.mono h.size)
theorem owns_above {w w' : World} {B g : Nat} {e : TypeId} {v : Value} {n : Nat} {xs : List Value} (h : w.ownsRow B e 1 v n xs) (hg : g < B) (hgr : w.grownBy w' (some g)) : w'.ownsRow B e 1 v n xs := by
  refine h.kept hgr ?_
  rcases h.2 with ⟨rfl, _⟩ | ⟨g', cap', cur, rfl, hb, _⟩
  · exact .inl rfl
  · refine .inr ?_
    simp [Value.ownBlock]
    omega

/-- What the comparison reads: each of three rows and two arguments as a string. -/
def Strs (v3 v4 v6 vb vx : Value) (s3 s4 s6 sb sx : ByteArray) (w' : World) : Prop :=
  (convert 22 9 v3).run Try.prog w' = .ok (.string s3) w' ∧ (convert 22 9 v4).run Try.prog w' = .ok (.string s4) w' ∧ (convert 22 9 v6).run Try.prog w' = .ok (.string s6) w' ∧
  (convert 22 9 vb).run Try.prog w' = .ok (.string sb) w' ∧ (convert 22 9 vx).run Try.prog w' = .ok (.string sx) w'

/-- The document's form, as a string. -/
def FormStr (n : Nat) (w : World) (e : Ending) (w' : World) : Prop := ∃ v, e = .returned v ∧ (convert 22 9 v).run Try.prog w' = .ok (.string (strOfNums (form n))) w' ∧ Below w.heap.size w w'
theorem formStr_any (n : Nat) (w : World) (hn : Fits n) : Calls Try.prog 13 #[.int .u64 n] w (FormStr n w) :=
  (form_any n w hn).mono fun _ _ ⟨v, h1, h2, h3⟩ => ⟨v, h1, conv_str (P := Try.prog) 22 9 5 Try.underlying22 Try.underlying5 Try.underlying9 _ _ _ (Ints.of_owns h2).1, h3⟩

set_option maxHeartbeats 8000000 in
set_option maxRecDepth 100000 in
theorem writes_walk (v1 v2 : Value) (bs xs : List Int) (n : Nat) (i : Int) (w : World) (hv1 : Ints .u8 w v1 bs) (hv2 : Ints .u8 w v2 xs) (hn : Fits n)
    (hi1 : -9223372036854775808 ≤ i) (hi2 : i ≤ 9223372036854775807) :
    Calls Try.prog 3 #[v1, v2, .int .u64 n, .int .i64 i] w fun e w' => e = .returned (.bool true) ∧ Below w.heap.size w w' := by
  have HV1 := Lib.hid hv1
  have HV2 := Lib.hid hv2
  have l1 := hv1.len
  have l2 := hv2.len
  obtain ⟨a1, cap1, rfl⟩ := hv1.shape
  obtain ⟨a2, cap2, rfl⟩ := hv2.shape
  clear hv1 hv2
  by_cases hx1 : 2000 < bs.length
  · clear HV1 HV2
    go_enter Try.func3, Try.ntmps3
    go_wp2_with (go_at_call 9; refine (known_any _).mono ?_; rintro e w' ⟨rfl, hb⟩)
    go_ret
    exact ⟨rfl, hb⟩
  by_cases hx2 : 2000 < xs.length
  · clear HV1 HV2
    go_enter Try.func3, Try.ntmps3
    go_wp2_with (go_at_call 9; refine (known_any _).mono ?_; rintro e w' ⟨rfl, hb⟩)
    go_ret
    exact ⟨rfl, hb⟩
  obtain ⟨i0, hi, hz0, hz1, hz2⟩ := info_parts info8
  have hzl := zig_lt i hi1 hi2
  have HC1 : Hid (∀ v w', Ints .u8 w' v bs → Calls Try.prog 10 #[v, .int .u64 n] w' (Made (bs ++ form n) w')) := fun v w' hv => appendUint_any v bs n w' hv (by omega) hn
  have HC2 : Hid (∀ v w', Ints .u8 w' v bs → Calls Try.prog 11 #[v, .int .i64 i] w' (Made (bs ++ form (zig i)) w')) := fun v w' hv => appendInt_any v bs i w' hv (by omega) hi1 hi2
  have HC3 : Hid (∀ v u w', Ints .u8 w' v bs → Ints .u8 w' u xs → Calls Try.prog 12 #[v, u] w' (Made (bs ++ form xs.length ++ xs) w')) := fun v u w' hv hu => appendBytes_any v u bs xs w' hv hu (by omega) (by omega)
  have HW := Lib.hid (fun w => whole_any i w hi1 hi2)
  have HF1 := Lib.hid (fun w => formStr_any n w hn)
  have HF2 := Lib.hid (fun w => formStr_any (zig i) w hzl)
  have HF3 := Lib.hid (fun w => formStr_any xs.length w (show _ < _ by omega))
  have e3 : strOfNums (bs ++ form n) = strOfNums bs ++ strOfNums (form n) := str_app _ _
  have e4 : strOfNums (bs ++ form (zig i)) = strOfNums bs ++ strOfNums (form (zig i)) := str_app _ _
  have e6 : strOfNums (bs ++ form xs.length ++ xs) = strOfNums bs ++ strOfNums (form xs.length) ++ strOfNums xs := by rw [str_app, str_app]
  have HN := Lib.hid hn
  have HZL := Lib.hid hzl
  have E3 := Lib.hid e3
  have E4 := Lib.hid e4
  have E6 := Lib.hid e6
  clear hn hzl e3 e4 e6
  go_enter Try.func3, Try.ntmps3
  go_wp2_with (at_make; refine wpList_make_ints _ rfl _ _ 22 rfl w.heap.size 5 i0 .u8 Try.underlying22 hi hz0 hz1 _ _ _ _ bs.length (bs.length + 20) rfl rfl (by omega) (by omega) (by omega) (by rw [hz2]; omega) (by unfold maxLen; omega) (Nat.le_refl _) ?_)
  intro w1 o1 g1
  have b1 : Below w.heap.size w w1 := (Below.refl _ _).grown g1 (Nat.le_refl _) (fun k h => by cases h)
  have j1 := HV1.out.below b1
  go_wp2_with (with_reducible refine wpList_copy_ints rfl (.tmp 28) (.tmp 29) 22 22 rfl 5 Try.underlying22 size8 w.heap.size .u8 _ _ _ _ bs o1 j1 rfl rfl (Nat.le_refl _) ?_)
  intro w2 o2 g2
  have b2 : Below w.heap.size w w2 := b1.grown g2 b1.size (fun k hk => (o1.lt k hk).1)
  have hlt := (o2.lt w.heap.size rfl).2
  try simp only [List.drop_of_length_le (List.length_replicate ▸ Nat.le_refl _), List.append_nil] at o2
  have j2 := (Ints.of_owns o2).1
  clear o1 g1 b1 j1 g2
  go_wp2_with (go_at_call 10; refine (HC1.out _ _ j2).mono ?_)
  rintro e w3 ⟨v3, rfl, o3, b23⟩
  have j3 := j2.below b23
  go_wp2_with (go_at_call 11; refine (HC2.out _ _ j3).mono ?_)
  rintro e w4 ⟨v4, rfl, o4, b34⟩
  have b24 := below_next b23 b34
  have j4 := j2.below b24
  have o34 := owns_below o3 b34
  have oe := owns_empty w4 5
  have ba : Below w4.heap.size w4 (w4.alloc (.cells #[] 5)) := (Below.refl _ _).alloc (Nat.le_refl _) _
  have iv := ((HV2.out.below b2).below b24).below ba
  go_wp2_with (at_builtin; refine wpList_append_ints rfl (.tmp 38) (.tmp 39) 22 rfl w4.heap.size 5 i0 (.int .u8 0) 1 Try.underlying22 hi hz0 hz1 hz2 rfl _ 0 [] rfl oe _ .u8 xs rfl iv (by unfold maxLen; omega) (by omega) (by simp) ?_)
  intro v5 w5 o5 g5
  try simp only [Nat.zero_add, List.nil_append] at o5
  have b45 : Below w4.heap.size w4 w5 := ba.grown g5 (by simp) (fun k hk => by simp [Value.ownBlock] at hk; omega)
  have b25 := below_next b24 b45
  have j5 := j2.below b25
  have o35 := owns_below o34 b45
  have o45 := owns_below o4 b45
  clear oe ba iv g5 j3 j4 o34 o3 o4
  go_wp2_with (go_at_call 12; refine (HC3.out _ _ _ j5 (Ints.of_owns o5).1).mono ?_)
  rintro e w6 ⟨v6, rfl, o6, b56⟩
  have b26 := below_next b25 b56
  have p0 := owns_below o2 b26
  have p3 := owns_below o35 b56
  have p4 := owns_below o45 b56
  have b6 := below_next b2 b26
  have s23 := b23.size
  have s34 := b34.size
  have s45 := b45.size
  have s56 := b56.size
  have HS : Hid (∀ w', Below w6.heap.size w6 w' → Strs v3 v4 v6 (.slice a1 bs.length cap1) (.slice a2 xs.length cap2) (strOfNums bs ++ strOfNums (form n)) (strOfNums bs ++ strOfNums (form (zig i))) (strOfNums bs ++ strOfNums (form xs.length) ++ strOfNums xs) (strOfNums bs) (strOfNums xs) w') := fun w' hb => by
    unfold Strs
    rw [← E3.out, ← E4.out, ← E6.out]
    exact ⟨conv_str (P := Try.prog) 22 9 5 Try.underlying22 Try.underlying5 Try.underlying9 _ _ _ ((Ints.of_owns p3).1.below hb), conv_str (P := Try.prog) 22 9 5 Try.underlying22 Try.underlying5 Try.underlying9 _ _ _ ((Ints.of_owns p4).1.below hb), conv_str (P := Try.prog) 22 9 5 Try.underlying22 Try.underlying5 Try.underlying9 _ _ _ ((Ints.of_owns o6).1.below hb), conv_str (P := Try.prog) 22 9 5 Try.underlying22 Try.underlying5 Try.underlying9 _ _ _ ((HV1.out.below b6).below hb), conv_str (P := Try.prog) 22 9 5 Try.underlying22 Try.underlying5 Try.underlying9 _ _ _ ((HV2.out.below b6).below hb)⟩
  clear j5 o5 o35 o45 b56 b25 b45 b24 b34 b23 o2 j2 HC1 HC2 HC3 E3 E4 E6 HV1 HV2
  have y1 : (strOfNums bs).size + (strOfNums (form n)).size ≤ 9223372036854775807 := by rw [strOfNums_size, strOfNums_size]; have := form_ten n HN.out; omega
  have y2 : (strOfNums bs).size + (strOfNums (form (zig i))).size ≤ 9223372036854775807 := by rw [strOfNums_size, strOfNums_size]; have := form_ten (zig i) HZL.out; omega
  have y3 : (strOfNums bs).size + (strOfNums (form xs.length)).size ≤ 9223372036854775807 := by rw [strOfNums_size, strOfNums_size]; have := form_ten xs.length (by omega); omega
  have y4 : (strOfNums bs).size + (strOfNums (form xs.length)).size + (strOfNums xs).size ≤ 9223372036854775807 := by rw [strOfNums_size, strOfNums_size, strOfNums_size]; have := form_ten xs.length (by omega); omega
  have y5 : (strOfNums bs ++ strOfNums (form xs.length)).size + (strOfNums xs).size ≤ 9223372036854775807 := by rw [ByteArray.size_append]; exact y4
  have hwx : IntKind.u64.wrap (xs.length : Int) = xs.length := IntWalk.u64_in _ (by omega)
  unfold FormStr at HF1 HF2 HF3
  unfold Strs at HS
  generalize strOfNums (form n) = sn at *
  generalize strOfNums (form (zig i)) = sz at *
  generalize strOfNums (form xs.length) = sl at *
  generalize strOfNums bs = sb at *
  generalize strOfNums xs = sx at *
  have S0 := HS.out w6.drew (Below.refl _ _).drew
  have B0 : Below w6.heap.size w6 w6.drew := (Below.refl _ _).drew
  go_wp2
  go_region_held (fun w' => (convert 22 9 v3).run Try.prog w' = .ok (.string (sb ++ sn)) w' ∧ (convert 22 9 v4).run Try.prog w' = .ok (.string (sb ++ sz)) w' ∧ (convert 22 9 v6).run Try.prog w' = .ok (.string (sb ++ sl ++ sx)) w' ∧ (convert 22 9 (.slice a1 bs.length cap1)).run Try.prog w' = .ok (.string sb) w' ∧ (convert 22 9 (.slice a2 xs.length cap2)).run Try.prog w' = .ok (.string sx) w')
    (first | assumption | trivial)
    (first
      | (go_at_call 14; refine (HW.out _).mono ?_; rintro e w' ⟨rfl, rfl⟩)
      | (go_at_call 13; ((with_reducible refine (HF1.out _).mono ?_); rintro e w7 ⟨f7, rfl, hc7, b67⟩; have B7 := below_next B0 b67; have S7 := HS.out w7 B7))
      | (go_at_call 13; ((with_reducible refine (HF2.out _).mono ?_); rintro e w8 ⟨f8, rfl, hc8, b78⟩; have B8 := below_next B7 b78; have S8 := HS.out w8 B8))
      | (go_at_call 13; ((with_reducible refine (HF3.out _).mono ?_); rintro e w9 ⟨f9, rfl, hc9, b89⟩; have B9 := below_next B8 b89; have S9 := HS.out w9 B9)))
  have b9 := below_next b6 B9
  have r0 := owns_below p0 B9
  have r3 := owns_below p3 B9
  have r4 := owns_below p4 B9
  have r6 := owns_below o6 B9
  clear S0 B0 S7 B7 b67 hc7 S8 B8 b78 hc8 S9 b89 hc9 HS HF1 HF2 HF3 HW p0 p3 p4 o6 b26 y1 y2 y3 y4 y5 hwx
  have A1 := own_any _ _ _ _ _ _ _ _ w9 r0 (by omega) (by omega) r3 (by omega)
  go_wp2_with (go_at_call 15; refine A1.mono ?_)
  rintro e w10 ⟨rfl, ⟨ys, q0⟩, g10⟩
  have q4 := owns_above r4 (by omega) g10
  have q6 := owns_above r6 (by omega) g10
  have b10 : Below w.heap.size w w10 := b9.grown g10 b9.size (fun k hk => by cases hk; exact Nat.le_refl _)
  have A2 := own_any _ _ _ _ _ _ _ _ w10 q0 (by omega) (by omega) q4 (by omega)
  clear r0 r3 r4 r6 g10 A1
  go_wp2_with (go_at_call 15; refine A2.mono ?_)
  rintro e w11 ⟨rfl, ⟨ys2, t0⟩, g11⟩
  have t6 := owns_above q6 (by omega) g11
  have b11 : Below w.heap.size w w11 := b10.grown g11 b10.size (fun k hk => by cases hk; exact Nat.le_refl _)
  have A3 := own_any _ _ _ _ _ _ _ _ w11 t0 (by omega) (by omega) t6 (by omega)
  clear q0 q4 q6 g11 A2
  go_wp2_with (go_at_call 15; refine A3.mono ?_)
  rintro e w12 ⟨rfl, ⟨ys3, u0⟩, g12⟩
  have b12 : Below w.heap.size w w12 := b11.grown g12 b11.size (fun k hk => by cases hk; exact Nat.le_refl _)
  clear t0 t6 u0 g12 A3
  go_wp2_with (go_at_call 9; refine (known_any _).mono ?_; rintro e w' ⟨rfl, hb⟩)
  go_ret
  exact ⟨rfl, b12.trans (hb.mono b12.size)⟩
end Go.Proofs.Ytmmmmjmnnapbcaa
