import Derived.Test.YtkacgfoglfoaiaaL4
namespace Go.Proofs.Ytkacgfoglfoaiaa
open Go.RowKit
set_option linter.unusedVariables false

set_option maxHeartbeats 1000000 in
set_option maxRecDepth 100000 in
theorem join_tt (v1 v2 : Value) (xs ys : List Int) (w : World) (hv1 : Ints .i32 w v1 xs) (hv2 : Ints .i32 w v2 ys) (hx : ¬ 1000 < xs.length) (hy : ¬ 1000 < ys.length) (ha : allMay xs = true) (hb : allMay ys = true) :
    Calls Try.prog 5 #[v1, v2] w fun e w' => e = .returned (.bool true) ∧ Below w.heap.size w w' := by
  have HA := Lib.hid ha
  have HBB := Lib.hid hb
  clear ha hb
  have l1 := hv1.len
  have l2 := hv2.len
  obtain ⟨i0, hi, hz0, hz1, hz2⟩ := info_parts info21
  have HV1 := Lib.hid hv1
  have HV2 := Lib.hid hv2
  obtain ⟨a, cap, hva⟩ := hv1.shape
  obtain ⟨a2, cap2, hva2⟩ := hv2.shape
  subst hva
  subst hva2
  clear hv1 hv2
  have n1 := nl_le xs
  have n2 := nl_le ys
  have n3 := nl_app xs ys
  go_enter Try.func5, Try.ntmps5
  go_wp2_with fail
  refine ((bytes_any _ _ _ HV1.out (by omega)).mono (fun _ _ h => bytes_out h)).mono ?_
  rintro e w1 ⟨b1, x, rfl, ix⟩
  have iv2 := HV2.out.below b1
  go_wp2_with (go_at_call 8; refine ((bytes_any _ _ _ iv2 (by omega)).mono (fun _ _ h => bytes_out h)).mono ?_)
  rintro e w2 ⟨b12, y, rfl, iy⟩
  have b2 := b1.trans (b12.mono b1.size)
  have ix2 := ix.below b12
  have o1 := owns_empty w2 21
  have ba : Below w2.heap.size w2 (w2.alloc (.cells #[] 21)) := (Below.refl _ _).alloc (Nat.le_refl _) _
  have il := (HV1.out.below b2).below ba
  clear b1 b12 ix iv2
  go_wp2_with (at_builtin; refine wpList_append_ints rfl (.tmp 36) (.tmp 37) 22 rfl w2.heap.size 21 i0 (.int .i32 0) 4 Try.underlying22 hi hz0 hz1 hz2 rfl _ 0 [] rfl o1 _ .i32 xs rfl il (by unfold maxLen; omega) (by omega) (by simp) ?_)
  intro v3 w3 hown3 hg3
  try simp only [Nat.zero_add, List.nil_append] at hown3
  have b23 : Below w2.heap.size w2 w3 := ba.grown hg3 (by simp) (fun k hk => by simp [Value.ownBlock] at hk; omega)
  have il2 := (HV2.out.below b2).below b23
  have hr3 := hown3.lt
  clear o1 il ba hg3
  go_wp2_with (at_builtin; refine wpList_append_ints rfl (.tmp 38) (.tmp 39) 22 rfl w2.heap.size 21 i0 (.int .i32 0) 4 Try.underlying22 hi hz0 hz1 hz2 rfl _ _ _ rfl hown3 _ .i32 ys rfl il2 (by unfold maxLen; omega) (by omega) (by have := b23.size; omega) ?_)
  intro v4 w4 hown4 hg4
  rw [← List.map_append] at hown4
  have b24 : Below w2.heap.size w2 w4 := b23.grown hg4 (by have := b23.size; omega) (fun k hk => (hr3 k hk).1)
  have b4 := b2.trans (b24.mono b2.size)
  have ib := (Ints.of_owns hown4).1
  have ix4 := ix2.below b24
  have iy4 := iy.below b24
  have hl : (xs ++ ys).length ≤ 2000 := by rw [List.length_append]; omega
  clear b2 b23 b24 il2 hr3 hown3 hown4 hg4 ix2 iy
  go_wp2_with (go_at_call 8; refine ((bytes_any _ _ _ ib (by omega)).mono (fun _ _ h => bytes_out h)).mono ?_)
  rintro e w5 ⟨b45, z, rfl, iz⟩
  have b5 := b4.trans (b45.mono b4.size)
  have ib5 := ib.below b45
  have ix5 := ix4.below b45
  have iy5 := iy4.below b45
  have il5 := HV1.out.below b5
  have ir5 := HV2.out.below b5
  clear b4 b45 ib ix4 iy4 hl
  have N3 := newlines_any _ _ _ ib5
  rw [n3] at N3
  have HN3 := Lib.hid N3
  clear n3 N3
  have ha := HA.out
  have hb := HBB.out
  have e1 : bErr xs = 0 := by simp [bErr, ha]
  have q1 : bOut xs = utfZ xs := by simp [bOut, ha]
  rw [q1] at ix5
  rw [e1]
  clear e1 q1
  have hab : allMay (xs ++ ys) = true := by rw [allMay_app, ha, hb]; rfl
  have e2 : bErr ys = 0 := by simp [bErr, hb]
  have e3 : bErr (xs ++ ys) = 0 := by simp [bErr, hab]
  have q2 : bOut ys = utfZ ys := by simp [bOut, hb]
  have q3 : bOut (xs ++ ys) = utfZ xs ++ utfZ ys := by simp [bOut, hab, utfZ_app]
  rw [q2] at iy5
  rw [q3] at iz
  have hc1 := conv_ints _ _ _ ix5
  have hc2 := conv_ints _ _ _ iy5
  have hc3 := conv_ints _ _ _ iz
  rw [e2, e3]
  clear q2 q3 e2 e3
  have hs1 := strOfNums_size (utfZ xs)
  have hs2 := strOfNums_size (utfZ ys)
  have hu1 := utfZ_len xs
  have hu2 := utfZ_len ys
  rw [str_app] at hc3
  have hsum : (strOfNums (utfZ xs)).size + (strOfNums (utfZ ys)).size ≤ 9223372036854775807 := by omega
  generalize strOfNums (utfZ xs) = s1 at hc1 hc3 hsum
  generalize strOfNums (utfZ ys) = s2 at hc2 hc3 hsum
  clear iy5 iz hs1 hs2 hu2 hu1
  by_cases hne : xs.length = 0
  · obtain rfl : xs = [] := List.eq_nil_of_length_eq_zero hne
    simp only [List.length_nil] at il5
    clear hne
    go_wp2_with fail
    refine HN3.out.mono ?_
    rintro e w' ⟨rfl, rfl⟩
    go_wp2_with fail
    refine (newlines_any _ _ _ il5).mono ?_
    rintro e w' ⟨rfl, rfl⟩
    go_wp2_with fail
    refine (newlines_any _ _ _ ir5).mono ?_
    rintro e w' ⟨rfl, rfl⟩
    go_wp2_with fail
    refine (known_any _).mono ?_
    rintro e w' ⟨rfl, hb6⟩
    go_wp2_with fail
    go_ret
    exact ⟨rfl, b5.trans (hb6.mono b5.size)⟩
  · obtain ⟨last, hdl, hxl⟩ := drop_last xs (by omega)
    have hml : allMay (xs.take (xs.length - 1) ++ [last]) = true := by rw [← hxl]; exact ha
    have hm1 : allMay [last] = true := by rw [allMay_app] at hml; simp at hml; exact hml.2
    have hcut := fun k => read_cut (xs.take (xs.length - 1)) last k hml
    rw [← hxl] at hcut
    have hle : (utfZ [last]).length ≤ (utfZ xs).length := by rw [hxl, utfZ_app, List.length_append]; omega
    have hl1 : 1 ≤ (utfZ [last]).length := by have := (Lib.encodeRuneZ_length last).1; simpa [utfZ] using this
    have hl4 := utfZ_len [last]
    have hul := utfZ_len xs
    obtain ⟨b, off, rfl, _, hcap, hcm, hcc⟩ := il5.opened (by omega)
    obtain ⟨ax, capx, hx0⟩ := ix5.shape
    subst hx0
    obtain ⟨bx, ox, rfl, _, hcapx, hcmx, hccx⟩ := ix5.opened (by omega)
    have hlastI := Ints.cut (j := xs.length - 1) (by omega) hcap hcm hcc
    rw [hdl] at hlastI
    have hcp2 : ¬ cap = xs.length - 1 := by omega
    have HCUT := Lib.hid hcut
    have HM1 := Lib.hid hm1
    have HIX := Lib.hid ix5
    have HCC := Lib.hid hccx
    have HLA := Lib.hid hlastI
    have HLE := Lib.hid hle
    have HL1 := Lib.hid hl1
    unfold maxLen at hcm hcmx
    clear hcut hm1 hml hxl hdl hcc hccx hlastI ix5 hle hl1
    go_wp2_with fail
    refine HN3.out.mono ?_
    rintro e w' ⟨rfl, rfl⟩
    go_wp2_with fail
    refine (newlines_any _ _ _ il5).mono ?_
    rintro e w' ⟨rfl, rfl⟩
    go_wp2_with fail
    refine (newlines_any _ _ _ ir5).mono ?_
    rintro e w' ⟨rfl, rfl⟩
    go_wp2_with fail
    have b1' : (utfZ [last]).length ≤ 4 := by simpa using hl4
    refine ((bytes_any _ _ _ HLA.out (by simp)).mono (fun _ _ h => bytes_out h)).mono ?_
    rintro e w6 ⟨b56, one, rfl, i1⟩
    have b6 := b5.trans (b56.mono b5.size)
    have ee : bErr [last] = 0 := by simp [bErr, HM1.out]
    have eo : bOut [last] = utfZ [last] := by simp [bOut, HM1.out]
    rw [eo] at i1
    rw [ee]
    obtain ⟨a1, cap1, ho⟩ := i1.shape
    subst ho
    have hq1 := HLE.out
    have hq2 := HL1.out
    clear eo ee HM1 HLA i1 hl4
    obtain ⟨m, hm⟩ : ∃ m, (utfZ [last]).length = m := ⟨_, rfl⟩
    rw [hm] at HCUT hq1 hq2 b1' ⊢
    obtain ⟨L, hL⟩ : ∃ L, (utfZ xs).length = L := ⟨_, rfl⟩
    rw [hL] at HCUT HCC hq1 hcapx ⊢
    have HL := Lib.hid hL
    have hL4 : L ≤ 4000 := by omega
    have z1 : decide ((m : Int) < 1) = false := by rw [decide_eq_false_iff_not]; omega
    have z2 : decide (L < m) = false := by rw [decide_eq_false_iff_not]; omega
    have z3 : decide (m < 1) = false := by rw [decide_eq_false_iff_not]; omega
    have z4 : decide (0 < xs.length) = true := by rw [decide_eq_true_iff]; omega
    have z5 : decide ((0 : Int) < (xs.length : Int)) = true := by rw [decide_eq_true_iff]; omega
    clear hm HLE HL1 hL
    go_wp2_with fail
    go_loopw [14] (fun i wr => ∃ k : Nat, 1 ≤ k ∧ k ≤ m ∧ i = .int .i64 k ∧ Below w.heap.size w wr ∧ Below w5.heap.size w5 wr) (fun i _ => m - (intOf i).toNat)
    case atStart => exact ⟨1, by omega, by omega, rfl, b6, b56⟩
    case round =>
      obtain ⟨k, hk1, hkm, rfl, bw, bw5⟩ := hrel
      by_cases hlt : k < m
      · have hr0 := HCUT.out k hk1 hlt
        have hccr : ∀ j, j < (utfZ xs).length → wr.cell? ⟨bx, ox + j, none⟩ = some (.int .u8 ((utfZ xs).getD j 0)) := fun j hj => by
          have h := HCC.out j (by have := HL.out; omega)
          rw [← h]
          exact bw5.cell (p := ⟨bx, ox + j, none⟩) (World.block_lt_of_cell? w5 _ h)
        have hin := Ints.head (j := L - k) (cap := capx) (by have := HL.out; omega) (by have := HL.out; omega) (by unfold maxLen; omega) hccr
        have hrl : ((utfZ xs).take (L - k)).length ≤ 4000 := by have := List.length_take_le (L - k) (utfZ xs); omega
        have er : rErr ((utfZ xs).take (L - k)) = 3 := by simp [rErr, hr0]
        have HIN := Lib.hid hin
        have HER := Lib.hid er
        clear hr0 hccr hin er
        go_wp2_with fail
        refine ((read_any _ _ _ HIN.out (by omega)).mono (fun _ _ h => read_out h)).mono ?_
        rintro e w7 ⟨b7, u, rfl, iu⟩
        rw [HER.out]
        have bw2 := bw.trans (b7.mono bw.size)
        have bw52 := bw5.trans (b7.mono bw5.size)
        clear iu
        go_wp2
        go_roundw
        case rel => first | exact ⟨k + 1, by omega, by omega, by go_num, bw2, bw52⟩ | ((repeat apply Exists.intro); exact ⟨⟨by omega, by omega, by go_num, bw2, bw52⟩, rfl⟩)
        case measure => simp [intOf]; omega
      · go_wp2_with (go_at_call 7; refine (known_any _).mono ?_; rintro e w' ⟨rfl, hb6⟩)
        go_ret
        exact ⟨rfl, bw.trans (hb6.mono bw.size)⟩

set_option maxHeartbeats 1000000 in
set_option maxRecDepth 100000 in
theorem join_walk (v1 v2 : Value) (xs ys : List Int) (w : World) (hv1 : Ints .i32 w v1 xs) (hv2 : Ints .i32 w v2 ys) :
    Calls Try.prog 5 #[v1, v2] w fun e w' => e = .returned (.bool true) ∧ Below w.heap.size w w' := by
  have l1 := hv1.len
  have l2 := hv2.len
  by_cases hx : 1000 < xs.length
  · obtain ⟨a, cap, rfl⟩ := hv1.shape
    obtain ⟨a2, cap2, rfl⟩ := hv2.shape
    clear hv1 hv2
    go_enter Try.func5, Try.ntmps5
    go_wp2_with (go_at_call 7; refine (known_any _).mono ?_; rintro e w' ⟨rfl, hb⟩)
    go_ret
    exact ⟨rfl, hb⟩
  by_cases hy : 1000 < ys.length
  · obtain ⟨a, cap, rfl⟩ := hv1.shape
    obtain ⟨a2, cap2, rfl⟩ := hv2.shape
    clear hv1 hv2
    go_enter Try.func5, Try.ntmps5
    go_wp2_with (go_at_call 7; refine (known_any _).mono ?_; rintro e w' ⟨rfl, hb⟩)
    go_ret
    exact ⟨rfl, hb⟩
  cases ha : allMay xs with
  | false =>
    cases hb : allMay ys with
    | false => exact join_ff v1 v2 xs ys w hv1 hv2 hx hy ha hb
    | true => exact join_ft v1 v2 xs ys w hv1 hv2 hx hy ha hb
  | true =>
    cases hb : allMay ys with
    | false => exact join_tf v1 v2 xs ys w hv1 hv2 hx hy ha hb
    | true => exact join_tt v1 v2 xs ys w hv1 hv2 hx hy ha hb
end Go.Proofs.Ytkacgfoglfoaiaa
