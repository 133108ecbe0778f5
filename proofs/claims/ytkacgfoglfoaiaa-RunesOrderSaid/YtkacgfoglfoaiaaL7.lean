import Derived.Test.YtkacgfoglfoaiaaL6
import Derived.Test.YtkacgfoglfoaiaaL3
namespace Go.Proofs.Ytkacgfoglfoaiaa
open Go.RowKit
set_option linter.unusedVariables false

set_option maxHeartbeats 1000000 in
set_option maxRecDepth 100000 in
theorem order_e3 (v1 v2 : Value) (xs ys : List Int) (w : World) (hv1 : Ints .i32 w v1 xs) (hv2 : Ints .i32 w v2 ys) (hx : ¬ 1000 < xs.length) (hy : ¬ 1000 < ys.length) (ha : allMay xs = true) (hb : allMay ys = true) (h0 : 0 < xs.length) (h02 : 0 < ys.length) :
    Calls Try.prog 6 #[v1, v2] w fun e w' => e = .returned (.bool true) ∧ Below w.heap.size w w' := by
  have HA := Lib.hid ha
  have HBB := Lib.hid hb
  have HV1 := Lib.hid hv1
  have HV2 := Lib.hid hv2
  obtain ⟨a, cap, hva⟩ := hv1.shape
  obtain ⟨a2, cap2, hva2⟩ := hv2.shape
  subst hva
  subst hva2
  obtain ⟨b, off, rfl, _, hcap, hcm, hcc0⟩ := hv1.opened h0
  obtain ⟨bb, off2, rfl, _, hcap2, hcm2, hcd0⟩ := hv2.opened h02
  have HCC := Lib.hid hcc0
  have HCD := Lib.hid hcd0
  unfold maxLen at hcm hcm2
  clear hcc0 hcd0
  have e1 : bErr xs = 0 := by simp [bErr, ha]
  have e2 : bErr ys = 0 := by simp [bErr, hb]
  have q1 : bOut xs = utfZ xs := by simp [bOut, ha]
  have q2 : bOut ys = utfZ ys := by simp [bOut, hb]
  have HE1 := Lib.hid e1
  have HE2 := Lib.hid e2
  have HQ1 := Lib.hid q1
  have HQ2 := Lib.hid q2
  have HU := Lib.hid (szs_utfZ xs ha)
  clear hv1 hv2 ha hb e1 e2 q1 q2
  go_enter Try.func6, Try.ntmps6
  go_wp2_with fail
  refine ((bytes_any _ _ _ HV1.out (by omega)).mono (fun _ _ h => bytes_out h)).mono ?_
  rintro e w1 ⟨b1, x, rfl, ix⟩
  rw [HQ1.out] at ix
  rw [HE1.out]
  have iv2 := HV2.out.below b1
  go_wp2_with fail
  refine ((bytes_any _ _ _ iv2 (by omega)).mono (fun _ _ h => bytes_out h)).mono ?_
  rintro e w2 ⟨b12, y, rfl, iy⟩
  rw [HQ2.out] at iy
  rw [HE2.out]
  have b2 := b1.trans (b12.mono b1.size)
  have ix2 := ix.below b12
  have hcc : ∀ j, j < xs.length → w2.cell? ⟨b, off + j, none⟩ = some (.int .i32 (xs.getD j 0)) := fun j hj => by
    rw [← HCC.out j hj]
    exact b2.cell (p := ⟨b, off + j, none⟩) (World.block_lt_of_cell? w _ (HCC.out j hj))
  have hcd : ∀ j, j < ys.length → w2.cell? ⟨bb, off2 + j, none⟩ = some (.int .i32 (ys.getD j 0)) := fun j hj => by
    rw [← HCD.out j hj]
    exact b2.cell (p := ⟨bb, off2 + j, none⟩) (World.block_lt_of_cell? w _ (HCD.out j hj))
  have HCC2 := Lib.hid hcc
  have HCD2 := Lib.hid hcd
  clear HCC HCD hcd
  have hc1 : ∀ q, (convert 23 9 x).run Try.prog (w2.drewN q) = .ok (.string (strOfNums (utfZ xs))) (w2.drewN q) := fun q => conv_ints _ _ _ (ix2.below (blw_drewN (Below.refl _ _) q))
  have hc2 : ∀ q, (convert 23 9 y).run Try.prog (w2.drewN q) = .ok (.string (strOfNums (utfZ ys))) (w2.drewN q) := fun q => conv_ints _ _ _ (iy.below (blw_drewN (Below.refl _ _) q))
  obtain ⟨ax, capx, hsx⟩ := ix2.shape
  subst hsx
  have HLESS1 := Lib.hid (fun k => less_end xs ys k)
  have HLESS2 := Lib.hid (fun k => less_end_not xs ys k)
  have HPART := Lib.hid (fun k h1 h2 h3 => part_at xs ys k h1 h2 h3 HA.out HBB.out)
  generalize strOfNums (utfZ xs) = s1 at hc1 HLESS1 HLESS2 HPART
  generalize strOfNums (utfZ ys) = s2 at hc2 HLESS1 HLESS2 HPART
  have HC1 := Lib.hid hc1
  have HC2 := Lib.hid hc2
  have hsb := szs_bd xs
  clear ix iy iv2 b1 b12 ix2 hc1 hc2 HV1 HV2
  go_wp2_with fail
  go_loop [9, 41] (fun n i => ∃ k : Nat, k ≤ xs.length ∧ i = .int .i64 k ∧ n = .int .i64 (szs (xs.take k))) (fun _ i => xs.length - (intOf i).toNat)
  case atStart => exact ⟨0, Nat.zero_le _, rfl, by simp [szs]⟩
  case round =>
    obtain ⟨k, hk, rfl, rfl⟩ := hrel
    have hd := szs_bd (xs.take k)
    have hl : (xs.take k).length ≤ k := List.length_take_le _ _
    by_cases hlt : k < xs.length
    · have HS := Lib.hid (szs_take xs k hlt)
      have hcx := hcc k hlt
      generalize xs.getD k 0 = z at hcx HS
      clear hcc 
      have hcases : z < 128 ∨ (128 ≤ z ∧ z < 2048) ∨ (2048 ≤ z ∧ z < 65536) ∨ 65536 ≤ z := by omega
      rcases hcases with h | ⟨h, h'⟩ | ⟨h, h'⟩ | h
      · have hz : sz z = 1 := by unfold sz; repeat' split <;> omega
        rw [hz] at HS
        clear hz
        go_wp2
        go_round
        case rel => exact ⟨k + 1, by omega, by go_num, by rw [HS.out]⟩
        case measure => simp [intOf]; omega
      · have hz : sz z = 2 := by unfold sz; repeat' split <;> omega
        rw [hz] at HS
        clear hz
        go_wp2
        go_round
        case rel => exact ⟨k + 1, by omega, by go_num, by rw [HS.out]; go_num⟩
        case measure => simp [intOf]; omega
      · have hz : sz z = 3 := by unfold sz; repeat' split <;> omega
        rw [hz] at HS
        clear hz
        go_wp2
        go_round
        case rel => exact ⟨k + 1, by omega, by go_num, by rw [HS.out]; go_num⟩
        case measure => simp [intOf]; omega
      · have hz : sz z = 4 := by unfold sz; repeat' split <;> omega
        rw [hz] at HS
        clear hz
        go_wp2
        go_round
        case rel => exact ⟨k + 1, by omega, by go_num, by rw [HS.out]; go_num⟩
        case measure => simp [intOf]; omega
    · obtain rfl : k = xs.length := by omega
      rw [List.take_of_length_le (Nat.le_refl _)]
      rw [List.take_of_length_le (Nat.le_refl _)] at hd
      clear hl hd
      go_wp2_with fail
      go_loopw [11] (fun i wr => ∃ k q : Nat, k ≤ xs.length ∧ k ≤ ys.length ∧ i = .int .i64 k ∧ Hid (xs.take k = ys.take k) ∧ wr = w2.drewN q) (fun i _ => xs.length - (intOf i).toNat)
      case atStart => exact ⟨0, 0, by omega, by omega, rfl, rfl, rfl⟩
      case round =>
        obtain ⟨k, q, hk1, hk2, rfl, ht, rfl⟩ := hrel
        by_cases a1 : k < xs.length
        · by_cases a2 : k < ys.length
          · have hcx := HCC2.out k a1
            have hcy := HCD2.out k a2
            have HK : xs.getD k 0 = ys.getD k 0 → Hid (xs.take (k + 1) = ys.take (k + 1)) := fun he => by
              show xs.take (k + 1) = ys.take (k + 1)
              rw [take_snoc xs k a1, take_snoc ys k a2, ht.out, he]
            have HP := HPART.out k a1 a2 ht.out
            generalize xs.getD k 0 = x0 at hcx HK HP
            generalize ys.getD k 0 = y0 at hcy HK HP
            clear HCC2 HCD2 HLESS1 HLESS2 HPART hcc
            by_cases he : x0 = y0
            · have HT := HK he
              have h3 : (x0 == y0) = true := by simp [he]
              clear HK HP he ht HC1 HC2 HU
              go_wp2
              go_quiet (fail)
              go_wp2
              go_roundw
              case rel => exact ⟨k + 1, q + nq, by omega, by omega, by go_num, HT, rfl⟩
              case measure => simp [intOf]; omega
            · have h3 : (x0 == y0) = false := by simp [he]
              have z1 : ((k : Int) == (xs.length : Int)) = false := by rw [beq_eq_false_iff_ne]; omega
              have z2 : (k == xs.length) = false := by rw [beq_eq_false_iff_ne]; omega
              by_cases hlt2 : x0 < y0
              · have hbl := HP.1 hlt2
                have z3 : decide (x0 < y0) = true := by rw [decide_eq_true_iff]; exact hlt2
                clear HK HP he ht
                have HUU := HU.out
                have hx1 := HC1.out
                have hx2 := HC2.out
                have zz : (((utfZ xs).length : Int) == szs xs) = true := by rw [HUU]; simp
                clear HUU HC1 HC2 HU
                go_wp2
                go_quiet (fail)
                go_wp2
                go_quiet (fail)
                go_wp2_with (go_at_call 7; refine (known_any _).mono ?_; rintro e w' ⟨rfl, hb6⟩)
                go_ret
                exact ⟨rfl, (blw_drewN b2 _).trans (hb6.mono b2.size)⟩
              · have hbl := HP.2 (by omega)
                have z3 : decide (x0 < y0) = false := by rw [decide_eq_false_iff_not]; exact hlt2
                clear HK HP he ht hlt2
                have HUU := HU.out
                have hx1 := HC1.out
                have hx2 := HC2.out
                have zz : (((utfZ xs).length : Int) == szs xs) = true := by rw [HUU]; simp
                clear HUU HC1 HC2 HU
                go_wp2
                go_quiet (fail)
                go_wp2
                go_quiet (fail)
                go_wp2_with (go_at_call 7; refine (known_any _).mono ?_; rintro e w' ⟨rfl, hb6⟩)
                go_ret
                exact ⟨rfl, (blw_drewN b2 _).trans (hb6.mono b2.size)⟩
          · have hbl := HLESS2.out k (by omega) hk1 ht.out
            have z3 : decide (k < ys.length) = false := by rw [decide_eq_false_iff_not]; exact a2
            clear HCC2 HCD2 HLESS1 HLESS2 HPART hcc ht
            have HUU := HU.out
            have hx1 := HC1.out
            have hx2 := HC2.out
            have zz : (((utfZ xs).length : Int) == szs xs) = true := by rw [HUU]; simp
            clear HUU HC1 HC2 HU
            go_wp2
            go_quiet (fail)
            go_wp2
            go_quiet (fail)
            go_wp2_with (go_at_call 7; refine (known_any _).mono ?_; rintro e w' ⟨rfl, hb6⟩)
            go_ret
            exact ⟨rfl, (blw_drewN b2 _).trans (hb6.mono b2.size)⟩
        · by_cases a2 : k < ys.length
          · have hbl := HLESS1.out k (by omega) a2 ht.out
            obtain rfl : k = xs.length := by omega
            have z3 : decide (xs.length < ys.length) = true := by rw [decide_eq_true_iff]; exact a2
            clear HCC2 HCD2 HLESS1 HLESS2 HPART hcc ht
            have HUU := HU.out
            have hx1 := HC1.out
            have hx2 := HC2.out
            have zz : (((utfZ xs).length : Int) == szs xs) = true := by rw [HUU]; simp
            clear HUU HC1 HC2 HU
            go_wp2
            go_quiet (fail)
            go_wp2
            go_quiet (fail)
            go_wp2_with (go_at_call 7; refine (known_any _).mono ?_; rintro e w' ⟨rfl, hb6⟩)
            go_ret
            exact ⟨rfl, (blw_drewN b2 _).trans (hb6.mono b2.size)⟩
          · have hbl := HLESS2.out k (by omega) hk1 ht.out
            have hkk : k = xs.length := by omega
            have z3 : decide (k < ys.length) = false := by rw [decide_eq_false_iff_not]; exact a2
            have z4 : decide (k < xs.length) = false := by rw [decide_eq_false_iff_not]; exact a1
            clear HCC2 HCD2 HLESS1 HLESS2 HPART hcc ht hkk
            have HUU := HU.out
            have hx1 := HC1.out
            have hx2 := HC2.out
            have zz : (((utfZ xs).length : Int) == szs xs) = true := by rw [HUU]; simp
            clear HUU HC1 HC2 HU
            go_wp2
            go_quiet (fail)
            go_wp2
            go_quiet (fail)
            go_wp2_with (go_at_call 7; refine (known_any _).mono ?_; rintro e w' ⟨rfl, hb6⟩)
            go_ret
            exact ⟨rfl, (blw_drewN b2 _).trans (hb6.mono b2.size)⟩
end Go.Proofs.Ytkacgfoglfoaiaa
