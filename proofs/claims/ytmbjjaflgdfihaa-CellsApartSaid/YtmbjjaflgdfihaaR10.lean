
import Derived.Test.YtmbjjaflgdfihaaR9
/- R10: CellsApart's walk -/
namespace Go.Proofs.Ytmbjjaflgdfihaa
open Go.RowKit
set_option linter.unusedVariables false
set_option maxRecDepth 100000

theorem may_split {ks : List Key} {ls : List Cl} (h : mayC ks ls = 0) : ∃ a x, ls = a ++ [x] ∧ x.r = 10 := by
  unfold mayC at h
  split at h
  · cases h
  · rename_i h1
    split at h
    · cases h
    · split at h
      · cases h
      · rename_i h3
        have h3 : lastR ls = 10 := Decidable.not_not.1 h3
        have hne : ls ≠ [] := fun e => h1 (.inl (by rw [e]; decide))
        refine ⟨ls.dropLast, ls.getLast hne, (List.dropLast_concat_getLast hne).symm, ?_⟩
        unfold lastR at h3
        rw [List.getLast?_eq_some_getLast hne] at h3
        exact h3
theorem apart_eq {ks : List Key} {xs ys : List Cl} (h1 : mayC ks xs = 0) (h2 : mayC ks ys = 0) : deltaC xs = deltaC ys ↔ xs = ys := by
  obtain ⟨a, x, rfl, hx⟩ := may_split h1
  obtain ⟨b, y, rfl, hy⟩ := may_split h2
  exact delta_inj (by rw [hx, hy])
set_option maxHeartbeats 8000000 in
theorem apart_walk (ka : Option Addr) (kn kc : Nat) (ks : List Key) (xa : Option Addr) (xn xc : Nat) (xs : List Cz) (ya : Option Addr) (yn yc : Nat) (ys : List Cz) (w : World) (hk : Krow w (.slice ka kn kc) ks) (hW : ∀ k ∈ ks, KeyW k) (hx : Drow w (.slice xa xn xc) xs) (hdx : ∀ z ∈ xs, CzW z) (hy : Drow w (.slice ya yn yc) ys) (hdy : ∀ z ∈ ys, CzW z) :
    Calls Try.prog 3 #[.slice ka kn kc, .slice xa xn xc, .slice ya yn yc] w fun e w' => e = .returned (.bool true) ∧ Below w.heap.size w w' := by
  have HN := Lib.hid (fun W => known18_any W)
  have HX := Lib.hid (fun W (hb : Below w.heap.size w W) => hx.below hb)
  have HY := Lib.hid (fun W (hb : Below w.heap.size w W) => hy.below hb)
  have HWX := Lib.hid hdx
  have HWY := Lib.hid hdy
  have HK := Lib.hid (fun W (hb : Below w.heap.size w W) => (show Krow W (.slice ka kn kc) ks from hk.below hb (Nat.le_refl _)))
  have HKW := Lib.hid hW
  have HGX := Lib.hid (great18_any 500 _ xs w hx (by decide))
  obtain rfl : kn = ks.length := by
    obtain ⟨_, _, e⟩ := hk.shape
    injection e
  clear hk hW hx hy hdx hdy
  by_cases hl : 64 < ks.length
  · have q1 : decide ((64 : Int) < (ks.length : Int)) = true := by simp; omega
    clear hl
    go_enter Try.func3, Try.ntmps3
    go_wp2_with (go_at_call 5; (with_reducible refine (HN.out _).mono ?_); rintro e w3 ⟨rfl, hb⟩; have HB3 := Lib.hid hb; clear hb)
    go_ret
    exact ⟨rfl, HB3.out⟩
  have q1 : decide ((64 : Int) < (ks.length : Int)) = false := by simp; omega
  clear hl
  go_enter Try.func3, Try.ntmps3
  go_wp2_with fail
  go_at_call 4
  refine HGX.out.mono ?_
  rintro e w1 ⟨g1, rfl, hg1, hb⟩
  have HB1 := Lib.hid hb
  have HG1 := Lib.hid hg1
  clear hb hg1 HGX
  cases g1
  rotate_left
  · go_wp2_with (go_at_call 5; (with_reducible refine (HN.out _).mono ?_); rintro e w3 ⟨rfl, hb⟩; have HB3 := Lib.hid (below_add HB1.out hb HB1.out.size); clear hb)
    go_ret
    exact ⟨rfl, HB3.out⟩
  have HLA := Lib.hid (HG1.out rfl)
  clear HG1
  have HGY := Lib.hid (great18_any 500 _ ys w1 (HY.out _ HB1.out) (by decide))
  go_wp2_with fail
  go_at_call 4
  refine HGY.out.mono ?_
  rintro e w2 ⟨g2, rfl, hg2, hb⟩
  have HB2 := Lib.hid (below_add HB1.out hb HB1.out.size)
  have HG2 := Lib.hid hg2
  clear hb hg2 HGY HB1
  cases g2
  rotate_left
  · skip
    go_wp2_with (go_at_call 5; (with_reducible refine (HN.out _).mono ?_); rintro e w9 ⟨rfl, hb⟩; have HB9 := Lib.hid (below_add HB2.out hb HB2.out.size); clear hb)
    go_ret
    exact ⟨rfl, HB9.out⟩
  have HLB := Lib.hid (HG2.out rfl)
  clear HG2
  by_cases hm : mayKs ks
  rotate_left
  · have HNO := Lib.hid (new_no (HK.out _ HB2.out) HKW.out hm)
    clear hm
    go_wp2_with (first
      | (go_at_call 6; (with_reducible refine HNO.out.mono ?_); rintro e w3 ⟨rfl, hb⟩; have HB3 := Lib.hid (below_add HB2.out hb HB2.out.size); clear hb)
      | (go_at_call 5; (with_reducible refine (HN.out _).mono ?_); rintro e w9 ⟨rfl, hb⟩; have HB9 := Lib.hid (below_add HB3.out hb HB3.out.size); clear hb))
    go_ret
    exact ⟨rfl, HB9.out⟩
  have HNEW := Lib.hid (new_yes (HK.out _ HB2.out) HKW.out hm)
  clear hm
  go_wp2_with fail
  go_at_call 6
  refine HNEW.out.mono ?_
  rintro e w3 ⟨s, rfl, hs, hb⟩
  have HB3 := Lib.hid (below_add HB2.out hb HB2.out.size)
  have HS3 := Lib.hid hs
  clear hb hs HNEW HB2
  have HM1 := Lib.hid (cmay_any _ _ ks xs w3 HS3.out (HX.out _ HB3.out) HWX.out)
  obtain ⟨m1, hm1⟩ : ∃ m, mayC ks (xs.map Cz.o) = m := ⟨_, rfl⟩
  rw [hm1] at HM1
  by_cases h1 : m1 = 0
  rotate_left
  · have q2 : (m1 != 0) = true := by simpa using h1
    clear h1 hm1
    go_wp2_with (first
      | (go_at_call 7; (with_reducible refine HM1.out.mono ?_); rintro e w4 ⟨rfl, hb⟩; have HB4 := Lib.hid (below_add HB3.out hb HB3.out.size); clear hb)
      | (go_at_call 5; (with_reducible refine (HN.out _).mono ?_); rintro e w9 ⟨rfl, hb⟩; have HB9 := Lib.hid (below_add HB4.out hb HB4.out.size); clear hb))
    go_ret
    exact ⟨rfl, HB9.out⟩
  subst h1
  have HE1 := Lib.hid hm1
  clear hm1
  go_wp2_with fail
  go_at_call 7
  refine HM1.out.mono ?_
  rintro e w4 ⟨rfl, hb⟩
  have HB4 := Lib.hid (below_add HB3.out hb HB3.out.size)
  have HM2 := Lib.hid (cmay_any _ _ ks ys w4 (HS3.out.below hb (Nat.le_refl _)) (HY.out _ HB4.out) HWY.out)
  clear hb HM1 HB3 HS3
  obtain ⟨m2, hm2⟩ : ∃ m, mayC ks (ys.map Cz.o) = m := ⟨_, rfl⟩
  rw [hm2] at HM2
  by_cases h1 : m2 = 0
  rotate_left
  · have q2 : (m2 != 0) = true := by simpa using h1
    clear h1 hm2
    go_wp2_with (first
      | (go_at_call 7; (with_reducible refine HM2.out.mono ?_); rintro e w5 ⟨rfl, hb⟩; have HB5 := Lib.hid (below_add HB4.out hb HB4.out.size); clear hb)
      | (go_at_call 5; (with_reducible refine (HN.out _).mono ?_); rintro e w9 ⟨rfl, hb⟩; have HB9 := Lib.hid (below_add HB5.out hb HB5.out.size); clear hb))
    go_ret
    exact ⟨rfl, HB9.out⟩
  subst h1
  have HIFF := Lib.hid (apart_eq HE1.out hm2)
  clear hm2
  have HSA := Lib.hid (fun W (hb : Below w.heap.size w W) => csame_any _ _ xs ys W (HX.out _ hb) (HY.out _ hb))
  have hL1 : xs.length ≤ 500 := HLA.out.1
  have hL2 : ys.length ≤ 500 := HLB.out.1
  have HDX := Lib.hid (fun W (hb : Below w.heap.size w W) => cdelta_any _ xs W (HX.out _ hb) (by omega) (fun z hz => Nat.le_trans (HLA.out.2 z hz) (show (64 : Nat) ≤ 50331648 by decide)))
  have HDY := Lib.hid (fun W (hb : Below w.heap.size w W) => cdelta_any _ ys W (HY.out _ hb) (by omega) (fun z hz => Nat.le_trans (HLB.out.2 z hz) (show (64 : Nat) ≤ 50331648 by decide)))
  have HTX := Lib.hid (fun W (hb : Below w.heap.size w W) => ctext_any _ xs W (HX.out _ hb) (by omega))
  have HTY := Lib.hid (fun W (hb : Below w.heap.size w W) => ctext_any _ ys W (HY.out _ hb) (by omega))
  clear hL1 hL2
  by_cases hq : xs.map Cz.o = ys.map Cz.o
  · have HSA1 := Lib.hid (fun W (hb : Below w.heap.size w W) => (show Calls _ _ _ _ _ from (HSA.out W hb).mono fun e w' h => (⟨by rw [h.1, decide_eq_true hq], h.2⟩ : e = .returned (.bool true) ∧ Below W.heap.size W w')))
    have HD2 := Lib.hid (HIFF.out.2 hq)
    have HTE := Lib.hid (show runesZ xs = runesZ ys by
      have := congrArg (List.map Cl.r) hq
      rw [List.map_map, List.map_map] at this
      exact this)
    clear hq
    go_wp2_with (first
      | (go_at_call 7; (with_reducible refine HM2.out.mono ?_); rintro e w5 ⟨rfl, hb⟩; have HB5 := Lib.hid (below_add HB4.out hb HB4.out.size); clear hb)
      | (go_at_call 8; (with_reducible refine (HSA1.out _ HB5.out).mono ?_); rintro e w6 ⟨rfl, hb⟩; have HB6 := Lib.hid (below_add HB5.out hb HB5.out.size); have HDX6 := Lib.hid (HDX.out _ HB6.out); clear hb)
      | (go_at_call 10; (with_reducible refine (HDX6.out).mono ?_); rintro e w7 ⟨v7, us, rfl, he, ho, hb⟩; obtain ⟨a7, n7, c7, -, rfl⟩ := own_sh ho; have HB7 := Lib.hid (below_add HB6.out hb HB6.out.size); have HU7 := Lib.hid (And.intro he ho.orow); have HDY7 := Lib.hid (HDY.out _ HB7.out); clear he ho hb)
      | (go_at_call 10; (with_reducible refine (HDY7.out).mono ?_); rintro e w8 ⟨v8, vs, rfl, he, ho, hb⟩; obtain ⟨a8, n8, c8, -, rfl⟩ := own_sh ho; have HB8 := Lib.hid (below_add HB7.out hb HB7.out.size); have HOS := Lib.hid (osame_any _ _ us vs w8 (HU7.out.2.below hb) ho.orow); rw [HU7.out.1, he, HD2.out, decide_eq_true (rfl : deltaC (ys.map Cz.o) = _)] at HOS; clear he ho hb)
      | (go_at_call 9; (with_reducible refine (HOS.out).mono ?_); rintro e w10 ⟨rfl, hb⟩; have HB10 := Lib.hid (below_add HB8.out hb HB8.out.size); have HTX10 := Lib.hid (HTX.out _ HB10.out); clear hb)
      | (go_at_call 12; (with_reducible refine (HTX10.out).mono ?_); rintro e w11 ⟨v11, rfl, ho, hb⟩; obtain ⟨a11, c11, rfl, -, -⟩ := own_shape ho; have HB11 := Lib.hid (below_add HB10.out hb HB10.out.size); have HI11 := Lib.hid (Ints.of_owns ho).1; have HTY11 := Lib.hid (HTY.out _ HB11.out); clear ho hb)
      | (go_at_call 12; (with_reducible refine (HTY11.out).mono ?_); rintro e w12 ⟨v12, rfl, ho, hb⟩; obtain ⟨a12, c12, rfl, -, -⟩ := own_shape ho; have HB12 := Lib.hid (below_add HB11.out hb HB11.out.size); have HRS := Lib.hid (isame_b _ _ (runesZ xs) (runesZ ys) w12 (HI11.out.below hb) (Ints.of_owns ho).1); rw [decide_eq_true HTE.out] at HRS; clear ho hb)
      | (go_at_call 11; (with_reducible refine (HRS.out).mono ?_); rintro e w13 ⟨rfl, hb⟩; have HB13 := Lib.hid (below_add HB12.out hb HB12.out.size); clear hb)
      | (go_at_call 5; (with_reducible refine (HN.out _).mono ?_); rintro e w9 ⟨rfl, hb⟩; have HB9 := Lib.hid (below_add HB13.out hb HB13.out.size); clear hb))
    go_ret
    exact ⟨rfl, HB9.out⟩
  · have HSA1 := Lib.hid (fun W (hb : Below w.heap.size w W) => (show Calls _ _ _ _ _ from (HSA.out W hb).mono fun e w' h => (⟨by rw [h.1, decide_eq_false hq], h.2⟩ : e = .returned (.bool false) ∧ Below W.heap.size W w')))
    have HD2 := Lib.hid (fun h => hq (HIFF.out.1 h))
    clear hq
    go_wp2_with (first
      | (go_at_call 7; (with_reducible refine HM2.out.mono ?_); rintro e w5 ⟨rfl, hb⟩; have HB5 := Lib.hid (below_add HB4.out hb HB4.out.size); clear hb)
      | (go_at_call 8; (with_reducible refine (HSA1.out _ HB5.out).mono ?_); rintro e w6 ⟨rfl, hb⟩; have HB6 := Lib.hid (below_add HB5.out hb HB5.out.size); have HDX6 := Lib.hid (HDX.out _ HB6.out); clear hb)
      | (go_at_call 10; (with_reducible refine (HDX6.out).mono ?_); rintro e w7 ⟨v7, us, rfl, he, ho, hb⟩; obtain ⟨a7, n7, c7, -, rfl⟩ := own_sh ho; have HB7 := Lib.hid (below_add HB6.out hb HB6.out.size); have HU7 := Lib.hid (And.intro he ho.orow); have HDY7 := Lib.hid (HDY.out _ HB7.out); clear he ho hb)
      | (go_at_call 10; (with_reducible refine (HDY7.out).mono ?_); rintro e w8 ⟨v8, vs, rfl, he, ho, hb⟩; obtain ⟨a8, n8, c8, -, rfl⟩ := own_sh ho; have HB8 := Lib.hid (below_add HB7.out hb HB7.out.size); have HOS := Lib.hid (osame_any _ _ us vs w8 (HU7.out.2.below hb) ho.orow); rw [HU7.out.1, he, decide_eq_false HD2.out] at HOS; clear he ho hb)
      | (go_at_call 9; (with_reducible refine (HOS.out).mono ?_); rintro e w10 ⟨rfl, hb⟩; have HB10 := Lib.hid (below_add HB8.out hb HB8.out.size); clear hb)
      | (go_at_call 5; (with_reducible refine (HN.out _).mono ?_); rintro e w9 ⟨rfl, hb⟩; have HB9 := Lib.hid (below_add HB10.out hb HB10.out.size); clear hb))
    go_ret
    exact ⟨rfl, HB9.out⟩
end Go.Proofs.Ytmbjjaflgdfihaa
