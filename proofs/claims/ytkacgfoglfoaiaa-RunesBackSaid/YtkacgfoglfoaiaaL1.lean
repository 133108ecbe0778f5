import Derived.Test.YtkacgfoglfoaiaaA9
namespace Go.Proofs.Ytkacgfoglfoaiaa
open Go.RowKit
set_option linter.unusedVariables false

theorem bl_map (bs : List Int) : bl bs = bs.map fun n => UInt8.ofNat n.toNat := rfl
theorem bl_utfZ (xs : List Int) : bl (utfZ xs) = encs xs := by
  rw [bl_map, utfZ, encs, List.map_flatMap]
  rfl
theorem allMay_iff (xs : List Int) : allMay xs = true ↔ ∀ x ∈ xs, mayP x := by
  rw [allMay, List.all_eq_true]
  constructor
  · intro h x hx
    have := h x hx
    unfold mayB at this
    rw [decide_eq_true_iff] at this
    exact this
  · intro h x hx
    unfold mayB
    rw [decide_eq_true_iff]
    exact h x hx
theorem str_of_bl {a b : List Int} (h : bl a = bl b) : strOfNums a = strOfNums b := by
  unfold strOfNums
  rw [bl_map, bl_map] at h
  rw [h]

theorem blw_drewN {B : Nat} {a w : World} (h : Below B a w) (n : Nat) : Below B a (w.drewN n) := h.trans ⟨rfl, rfl, rfl, Nat.le_refl _, fun _ _ => rfl⟩
theorem encs_len : ∀ xs : List Int, xs.length ≤ (encs xs).length
  | [] => by simp
  | x :: t => by
    have h := encodeRune_len x
    have ih := encs_len t
    rw [encs_cons, List.length_append, List.length_cons]
    omega
/-- What was read: it may be, and its bytes are these. -/
theorem read_back {bs rs : List Int} (h : readL (bl bs) = some rs) : allMay rs = true ∧ strOfNums (utfZ rs) = strOfNums bs ∧ rs.length ≤ bs.length := by
  obtain ⟨h1, h2⟩ := encs_read _ _ _ (Nat.le_refl _) h
  refine ⟨(allMay_iff rs).2 h2, str_of_bl (by rw [bl_utfZ, h1]), ?_⟩
  have := encs_len rs
  rw [h1, bl_len] at this
  exact this

set_option maxHeartbeats 4000000 in
theorem back_walk (v1 v2 : Value) (xs bs : List Int) (w : World) (hv1 : Ints .i32 w v1 xs) (hv2 : Ints .u8 w v2 bs) :
    Calls Try.prog 4 #[v1, v2] w fun e w' => e = .returned (.bool true) ∧ Below w.heap.size w w' := by
  have l1 := hv1.len
  have l2 := hv2.len
  by_cases hx : 3000 < xs.length
  · obtain ⟨a, cap, rfl⟩ := hv1.shape
    obtain ⟨a2, cap2, rfl⟩ := hv2.shape
    clear hv1 hv2
    go_enter Try.func4, Try.ntmps4
    go_wp2_with (go_at_call 7; refine (known_any _).mono ?_; rintro e w' ⟨rfl, hb⟩)
    go_ret
    exact ⟨rfl, hb⟩
  by_cases hy : 3000 < bs.length
  · obtain ⟨a, cap, rfl⟩ := hv1.shape
    obtain ⟨a2, cap2, rfl⟩ := hv2.shape
    clear hv1 hv2
    go_enter Try.func4, Try.ntmps4
    go_wp2_with (go_at_call 7; refine (known_any _).mono ?_; rintro e w' ⟨rfl, hb⟩)
    go_ret
    exact ⟨rfl, hb⟩
  have hu4 := utfZ_len xs
  have C := bytes_any v1 xs w hv1 (by omega)
  obtain ⟨a, cap, hva⟩ := hv1.shape
  obtain ⟨a2, cap2, hva2⟩ := hv2.shape
  have HA2 := Lib.hid hva2
  subst hva
  rw [hva2] at hv2 ⊢
  clear hva2
  go_enter Try.func4, Try.ntmps4
  go_wp2_with (go_at_call 8; refine C.mono ?_)
  rintro e w1 ⟨b1, ⟨hm, v, n, rfl, hown⟩ | ⟨hm, rfl⟩⟩
  · have iv := (Ints.of_owns hown).1
    have hread : readL (bl (utfZ xs)) = some xs := by rw [bl_utfZ]; exact read_encs xs ((allMay_iff xs).1 hm)
    have HR := Lib.hid hread
    clear hread hown hm
    go_wp2_with (go_at_call 10; refine (read_any _ _ _ iv (by omega)).mono ?_)
    rintro e w2 ⟨b2, ⟨rs, v2, n2, hrs, rfl, hown2⟩ | ⟨hno, _⟩⟩
    · rw [HR.out] at hrs
      obtain rfl : xs = rs := by simpa using hrs
      have iv2 := (Ints.of_owns hown2).1
      have hb2 : Below w.heap.size w w2 := b1.trans (b2.mono b1.size)
      have i1 := (hv1.below b1).below b2
      have i2 := (hv2.below b1).below b2
      have hsame : sameB xs xs = true := by simp [sameB]
      clear b1 b2 hv1 hv2 iv hown2 hrs
      go_wp2_with (go_at_call 12; refine (same_any _ _ _ _ _ iv2 i1).mono ?_; rintro e w' ⟨rfl, nq, rfl⟩)
      have hb3 : Below w.heap.size w (w2.drewN nq) := blw_drewN hb2 nq
      have i3 := i2.below (blw_drewN (Below.refl _ _) nq)
      refine (read_any _ _ _ i3 (by omega)).mono ?_
      rintro e w4 ⟨b4, ⟨rs, v4, n4, hrs, rfl, hown4⟩ | ⟨hno, rfl⟩⟩
      · have hb4 := hb3.trans (b4.mono hb3.size)
        obtain ⟨hm4, hst, hrl⟩ := read_back hrs
        have iv4 := (Ints.of_owns hown4).1
        have i4 := i3.below b4
        have HST := Lib.hid hst
        clear hst hown4 hrs b4 i3
        go_wp2_with (go_at_call 8; refine (bytes_any _ _ _ iv4 (by omega)).mono ?_)
        rintro e w5 ⟨b5, ⟨_, v5, n5, rfl, hown5⟩ | ⟨hm5, rfl⟩⟩
        · have hb5 := hb4.trans (b5.mono hb4.size)
          have hc1 := conv_ints _ _ _ (Ints.of_owns hown5).1
          have hc2 := conv_ints _ _ _ (i4.below b5)
          rw [HST.out] at hc1
          generalize strOfNums bs = sb at hc1 hc2
          clear hown5 b5 i4 iv4 hb3 hb4
          go_wp2_with (go_at_call 7; refine (known_any _).mono ?_; rintro e w' ⟨rfl, hb6⟩)
          go_ret
          exact ⟨rfl, hb5.trans (hb6.mono hb5.size)⟩
        · rw [hm4] at hm5
          cases hm5
      · have hb4 := hb3.trans (b4.mono hb3.size)
        go_wp2_with (go_at_call 7; refine (known_any _).mono ?_; rintro e w' ⟨rfl, hb5⟩)
        go_ret
        exact ⟨rfl, hb4.trans (hb5.mono hb4.size)⟩
    · rw [HR.out] at hno
      cases hno
  · have hb3 : Below w.heap.size w w1 := b1
    have i3 := hv2.below b1
    clear hv1 hv2 hm
    go_wp2_with fail
    refine (read_any _ _ _ i3 (by omega)).mono ?_
    rintro e w4 ⟨b4, ⟨rs, v4, n4, hrs, rfl, hown4⟩ | ⟨hno, rfl⟩⟩
    · have hb4 := hb3.trans (b4.mono hb3.size)
      obtain ⟨hm4, hst, hrl⟩ := read_back hrs
      have iv4 := (Ints.of_owns hown4).1
      have i4 := i3.below b4
      have HST := Lib.hid hst
      clear hst hown4 hrs b4 i3
      go_wp2_with (go_at_call 8; refine (bytes_any _ _ _ iv4 (by omega)).mono ?_)
      rintro e w5 ⟨b5, ⟨_, v5, n5, rfl, hown5⟩ | ⟨hm5, rfl⟩⟩
      · have hb5 := hb4.trans (b5.mono hb4.size)
        have hc1 := conv_ints _ _ _ (Ints.of_owns hown5).1
        have hc2 := conv_ints _ _ _ (i4.below b5)
        rw [HST.out] at hc1
        generalize strOfNums bs = sb at hc1 hc2
        clear hown5 b5 i4 iv4 hb3 hb4
        go_wp2_with (go_at_call 7; refine (known_any _).mono ?_; rintro e w' ⟨rfl, hb6⟩)
        go_ret
        exact ⟨rfl, hb5.trans (hb6.mono hb5.size)⟩
      · rw [hm4] at hm5
        cases hm5
    · have hb4 := hb3.trans (b4.mono hb3.size)
      go_wp2_with (go_at_call 7; refine (known_any _).mono ?_; rintro e w' ⟨rfl, hb5⟩)
      go_ret
      exact ⟨rfl, hb4.trans (hb5.mono hb4.size)⟩
end Go.Proofs.Ytkacgfoglfoaiaa
