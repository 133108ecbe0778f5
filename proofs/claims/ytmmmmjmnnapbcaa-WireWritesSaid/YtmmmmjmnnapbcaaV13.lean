import Derived.Test.YtmmmmjmnnapbcaaV12
namespace Go.Proofs.Ytmmmmjmnnapbcaa
open Go.RowKit
set_option linter.unusedVariables false

/-- All that the reading of four forms, one behind the other, comes to. -/
theorem back_facts (ah xs be : List Int) (n : Nat) (i : Int) (hn : Fits n) (hz : Fits (zig i)) (hx : xs.length ≤ 2000) (ha : ah.length ≤ 2000) (hb : be.length ≤ 2000)
    (h1 : ∀ x ∈ ah, 0 ≤ x ∧ x < 256) (h2 : ∀ x ∈ xs, 0 ≤ x ∧ x < 256) (h3 : ∀ x ∈ be, 0 ≤ x ∧ x < 256) :
    ∃ (bs : List Int) (P1 P2 P3 : Nat), ah ++ form n ++ form (zig i) ++ form xs.length ++ xs ++ be = bs ∧ (∀ x ∈ bs, 0 ≤ x ∧ x < 256) ∧ bs.length ≤ 6040 ∧
      (uErr bs ah.length = 0 ∧ uNum bs ah.length = n ∧ uNxt bs ah.length = P1) ∧
      (uErr bs P1 = 0 ∧ uNum bs P1 = zig i ∧ uNxt bs P1 = P2) ∧
      (bErr bs P2 xs.length = 0 ∧ bNxt bs P2 xs.length = P3 ∧ bOut bs P2 xs.length = xs) ∧
      (bErr bs P2 ((xs.length : Int) - 1) = 3 ∧ bNxt bs P2 ((xs.length : Int) - 1) = 0 ∧ bOut bs P2 ((xs.length : Int) - 1) = []) ∧
      (P3 : Int) - xs.length - (form xs.length).length = P2 ∧ (bs.length : Int) - be.length = P3 ∧ P3 ≤ 6040 ∧ xs.length + (form xs.length).length ≤ P3 := by
  have f1 := form_ten n hn
  have f2 := form_ten (zig i) hz
  have f3 := form_ten xs.length (by omega)
  refine ⟨_, (ah ++ form n).length, (ah ++ form n ++ form (zig i)).length, (ah ++ form n ++ form (zig i)).length + (form xs.length).length + xs.length, rfl, ?_, ?_, ?_, ?_, ?_, ?_, ?_, ?_, ?_, ?_⟩
  · intro x hx
    simp only [List.mem_append] at hx
    rcases hx with ((((hx | hx) | hx) | hx) | hx) | hx
    · exact h1 x hx
    · exact form_bytes _ x hx
    · exact form_bytes _ x hx
    · exact form_bytes _ x hx
    · exact h2 x hx
    · exact h3 x hx
  · simp; omega
  · have := u_form ah (form (zig i) ++ form xs.length ++ xs ++ be) n hn
    simpa [List.append_assoc] using this
  · have := u_form (ah ++ form n) (form xs.length ++ xs ++ be) (zig i) hz
    simpa [List.append_assoc, Nat.add_assoc] using this
  · have := (b_form (ah ++ form n ++ form (zig i)) xs be xs.length (show _ < _ by omega)).2 (by omega)
    simpa [List.append_assoc] using this
  · have := (b_form (ah ++ form n ++ form (zig i)) xs be ((xs.length : Int) - 1) (show _ < _ by omega)).1 (by omega)
    simpa [List.append_assoc] using this
  · omega
  · simp; omega
  · simp; omega
  · omega

set_option maxHeartbeats 4000000 in
set_option maxRecDepth 100000 in
theorem back_walk (v1 v2 v3 : Value) (ah xs be : List Int) (n : Nat) (i : Int) (w : World) (hv1 : Ints .u8 w v1 ah) (hv2 : Ints .u8 w v2 xs) (hv3 : Ints .u8 w v3 be) (hn : Fits n)
    (hi1 : -9223372036854775808 ≤ i) (hi2 : i ≤ 9223372036854775807) (h1 : ∀ x ∈ ah, 0 ≤ x ∧ x < 256) (h2 : ∀ x ∈ xs, 0 ≤ x ∧ x < 256) (h3 : ∀ x ∈ be, 0 ≤ x ∧ x < 256) :
    Calls Try.prog 5 #[v1, v2, v3, .int .u64 n, .int .i64 i] w fun e w' => e = .returned (.bool true) ∧ Below w.heap.size w w' := by
  have HV1 := Lib.hid hv1
  have HV2 := Lib.hid hv2
  have HV3 := Lib.hid hv3
  have l1 := hv1.len
  have l2 := hv2.len
  have l3 := hv3.len
  obtain ⟨a1, cap1, rfl⟩ := hv1.shape
  obtain ⟨a2, cap2, rfl⟩ := hv2.shape
  obtain ⟨a3, cap3, rfl⟩ := hv3.shape
  clear hv1 hv2 hv3
  by_cases hx1 : 2000 < ah.length
  · clear HV1 HV2 HV3
    go_enter Try.func5, Try.ntmps5
    go_wp2_with (go_at_call 9; refine (known_any _).mono ?_; rintro e w' ⟨rfl, hb⟩)
    go_ret
    exact ⟨rfl, hb⟩
  by_cases hx2 : 2000 < xs.length
  · clear HV1 HV2 HV3
    go_enter Try.func5, Try.ntmps5
    go_wp2_with (go_at_call 9; refine (known_any _).mono ?_; rintro e w' ⟨rfl, hb⟩)
    go_ret
    exact ⟨rfl, hb⟩
  by_cases hx3 : 2000 < be.length
  · clear HV1 HV2 HV3
    go_enter Try.func5, Try.ntmps5
    go_wp2_with (go_at_call 9; refine (known_any _).mono ?_; rintro e w' ⟨rfl, hb⟩)
    go_ret
    exact ⟨rfl, hb⟩
  obtain ⟨i0, hi, hz0, hz1, hz2⟩ := info_parts info8
  obtain ⟨bs, P1, P2, P3, hbs, hbb, hbl, hU, hI, hB, hB2, e1, e2, hP3, hP4⟩ := back_facts ah xs be n i hn (zig_lt i hi1 hi2) (by omega) (by omega) (by omega) h1 h2 h3
  have f1 := form_ten n hn
  have f2 := form_ten (zig i) (zig_lt i hi1 hi2)
  have f3 := form_ten xs.length (by omega)
  have C1 := appendUint_any _ ah n w HV1.out (by omega) hn
  have HC2 : Hid (∀ v w', Ints .u8 w' v (ah ++ form n) → Calls Try.prog 11 #[v, .int .i64 i] w' (Made (ah ++ form n ++ form (zig i)) w')) := fun v w' hv => appendInt_any v _ i w' hv (by simp; omega) hi1 hi2
  have HC3 : Hid (∀ v w' u, Ints .u8 w' v (ah ++ form n ++ form (zig i)) → Ints .u8 w' u xs → Calls Try.prog 12 #[v, u] w' (Made (ah ++ form n ++ form (zig i) ++ form xs.length ++ xs) w')) := fun v w' u hv hu => appendBytes_any v u _ xs w' hv hu (by simp; omega) (by omega)
  have HF := Lib.hid (fun w => sized_any xs.length w (show _ < _ by omega))
  generalize ah ++ form n = T1 at *
  generalize T1 ++ form (zig i) = T2 at *
  have hT3 : (T2 ++ form xs.length ++ xs).length ≤ 6040 := by rw [← hbs] at hbl; simp at hbl ⊢; omega
  generalize T2 ++ form xs.length ++ xs = T3 at *
  generalize (form xs.length).length = LF at *
  have HBS := Lib.hid hbs
  have HBB := Lib.hid hbb
  have HU := Lib.hid hU
  have HI := Lib.hid hI
  have HB := Lib.hid hB
  have HB2 := Lib.hid hB2
  have q1 : ((P3 : Int) != (bs.length : Int) - be.length) = false := by rw [bne_eq_false_iff_eq, e2]
  have HZ := zag_zig i
  clear hbs hbb hU hI hB hB2 h1 h2 h3 hn f1 f2
  go_enter Try.func5, Try.ntmps5
  go_wp2_with (go_at_call 10; refine C1.mono ?_)
  rintro e w1 ⟨x1, rfl, o1, b1⟩
  go_wp2_with (go_at_call 11; refine (HC2.out _ _ (Ints.of_owns o1).1).mono ?_)
  rintro e w2 ⟨x2, rfl, o2, b12⟩
  have b2 := b1.trans (b12.mono b1.size)
  have j2 := HV2.out.below b2
  clear b1 b12 o1 C1
  go_wp2_with (go_at_call 12; refine (HC3.out _ _ _ (Ints.of_owns o2).1 j2).mono ?_)
  rintro e w3 ⟨x3, rfl, o3, b23⟩
  have b3 := b2.trans (b23.mono b2.size)
  have j3 := HV3.out.below b3
  have o3' := owns_mono o3 b2.size
  clear b2 b23 o2 j2 o3 HC2 HC3
  go_wp2_with (at_builtin; refine wpList_append_ints rfl (.tmp 41) (.tmp 42) 22 rfl w.heap.size 5 i0 (.int .u8 0) 1 Try.underlying22 hi hz0 hz1 hz2 rfl _ _ _ rfl o3' _ .u8 be rfl j3 (by unfold maxLen; omega) (by omega) b3.size ?_)
  intro x4 w4 o4 g4
  rw [← List.map_append, HBS.out] at o4
  have b4 : Below w.heap.size w w4 := b3.grown g4 b3.size (fun k hk => (o3'.lt k hk).1)
  have j4 := (Ints.of_owns o4).1
  have j2 := HV2.out.below b4
  obtain ⟨a4, cap4, rfl⟩ := j4.shape
  clear o4 g4 b3 o3' j3
  have U := uint_any _ bs ah.length w4 j4 HBB.out (by omega)
  unfold UintIs at U
  rw [HU.out.1, HU.out.2.1, HU.out.2.2] at U
  have J := int_any _ bs P1 w4 j4 HBB.out (by omega)
  unfold IntIs at J
  rw [HI.out.1, HI.out.2.1, HI.out.2.2] at J
  have B := (bytes_any _ bs P2 xs.length w4 j4 HBB.out (by omega) (by omega)).mono fun _ _ h => bytes_said h HB.out
  clear HU HI
  go_wp2_with (go_at_call 16; refine U.mono ?_; rintro e w' ⟨rfl, rfl⟩)
  go_wp2_with (go_at_call 18; refine J.mono ?_; rintro e w' ⟨rfl, rfl⟩)
  go_wp2_with (go_at_call 20; refine B.mono ?_)
  rintro e w5 ⟨a5, cap5, rfl, j5, b45⟩
  have b5 := b4.trans (b45.mono b4.size)
  have hc1 := conv_str (P := Try.prog) 22 9 5 Try.underlying22 Try.underlying5 Try.underlying9 _ _ _ j5
  have hc2 := conv_str (P := Try.prog) 22 9 5 Try.underlying22 Try.underlying5 Try.underlying9 _ _ _ (j2.below b45)
  have j4' := j4.below b45
  clear U J B j5 j2 b4 b45 j4 HB
  generalize strOfNums xs = sx at *
  go_wp2_with (go_at_call 10; refine (HF.out _).mono ?_)
  rintro e w6 ⟨a6, cap6, rfl, b56⟩
  have b6 := b5.trans (b56.mono b5.size)
  have B2 := (bytes_any _ bs P2 ((xs.length : Int) - 1) w6 (j4'.below b56) HBB.out (by omega) (by omega)).mono fun _ _ h => bytes_said h HB2.out
  clear hc1 hc2 b5 b56 j4' HF HB2
  go_wp2_with (go_at_call 20; refine B2.mono ?_)
  rintro e w7 ⟨a7, cap7, rfl, j7, b67⟩
  have b7 := b6.trans (b67.mono b6.size)
  clear B2 j7 b6 b67
  go_wp2_with (go_at_call 9; refine (known_any _).mono ?_; rintro e w' ⟨rfl, hb⟩)
  go_ret
  exact ⟨rfl, b7.trans (hb.mono b7.size)⟩
end Go.Proofs.Ytmmmmjmnnapbcaa
