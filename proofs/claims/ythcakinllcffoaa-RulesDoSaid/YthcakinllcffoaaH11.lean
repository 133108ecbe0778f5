
import Derived.Test.YthcakinllcffoaaH8
import Derived.Test.YthcakinllcffoaaH10
/- H11: the reference's Step -/
namespace Go.Proofs.Ythcakinllcffoaa
open Go.RowKit
set_option linter.unusedVariables false

set_option maxRecDepth 100000 in
theorem rstep_none (v u : Value) (ks : List Key) (key by_ : Int) (w : World) (hk : Krow w v ks) (he : sE ks key = 4) :
    Calls Try.prog 18 #[v, u, .int .i64 key, .int .i64 by_] w fun e w' => e = .returned (.tuple #[.slice none 0 0, .int .i64 4]) ∧ Below w.heap.size w w' := by
  have HF := rfind_any v ks key w hk
  unfold fndV at HF
  have hc : (fnd ks key).isSome = false ∨ (fnd ks key).isSome = true ∧ ¬ ((fnd ks key).getD noKey).kind = 2 := by
    unfold sE at he
    cases hf : fnd ks key with
    | none => exact .inl rfl
    | some k =>
      refine .inr ⟨rfl, ?_⟩
      rw [hf] at he
      simp only at he
      intro h
      simp only [Option.getD_some] at h
      rw [if_neg (by simpa using h)] at he
      split at he <;> cases he
  generalize (fnd ks key).isSome = bb at *
  generalize (fnd ks key).getD noKey = kk at *
  have HF := Lib.hid HF
  obtain ⟨k1, k2, k3, k4, k5, k6⟩ := kk
  clear hk he
  rcases hc with rfl | ⟨rfl, h3⟩
  · go_enter Try.func18, Try.ntmps18
    go_wp2_with (go_at_call 44; (refine HF.out.mono ?_); rintro e w1 ⟨rfl, hb1⟩; have HB := Lib.hid (hb1.alloc hb1.size (.cells #[.int .i64 k1, .bool k2, .int .u8 k3, .bool k4, .bool k5, .int .i64 k6] 59)); clear hb1)
    go_ret2
    exact ⟨rfl, HB.out⟩
  · simp only at h3
    have e3 : (k3 != 2) = true := by simpa using h3
    clear h3
    go_enter Try.func18, Try.ntmps18
    go_wp2_with (go_at_call 44; (refine HF.out.mono ?_); rintro e w1 ⟨rfl, hb1⟩; have HB := Lib.hid (hb1.alloc hb1.size (.cells #[.int .i64 k1, .bool k2, .int .u8 k3, .bool k4, .bool k5, .int .i64 k6] 59)); clear hb1)
    go_ret2
    exact ⟨rfl, HB.out⟩
set_option maxRecDepth 100000 in
theorem rstep_scope (v u : Value) (ks : List Key) (key by_ : Int) (w : World) (hk : Krow w v ks) (he : sE ks key = 7) :
    Calls Try.prog 18 #[v, u, .int .i64 key, .int .i64 by_] w fun e w' => e = .returned (.tuple #[.slice none 0 0, .int .i64 7]) ∧ Below w.heap.size w w' := by
  have HF := rfind_any v ks key w hk
  unfold fndV at HF
  obtain ⟨h1, h2, h3⟩ := sE_seven he
  generalize (fnd ks key).isSome = bb at *
  generalize (fnd ks key).getD noKey = kk at *
  obtain ⟨k1, k2, k3, k4, k5, k6⟩ := kk
  simp only at h2 h3
  subst h1 h2 h3
  have HF := Lib.hid HF
  clear hk he
  go_enter Try.func18, Try.ntmps18
  go_wp2_with (go_at_call 44; (refine HF.out.mono ?_); rintro e w1 ⟨rfl, hb1⟩; have HB := Lib.hid (hb1.alloc hb1.size (.cells #[.int .i64 k1, .bool false, .int .u8 2, .bool k4, .bool k5, .int .i64 k6] 59)); clear hb1)
  go_ret2
  exact ⟨rfl, HB.out⟩

/-- The three ways to the number. -/
theorem num_ways (xs : List Att) (key : Int) : ∃ a b, getV xs key = .tuple #[vv a, .bool b] ∧ ((b = true ∧ a.k = 2 ∧ numN xs key = a.n) ∨ (b = true ∧ a.k ≠ 2 ∧ numN xs key = 0) ∨ (b = false ∧ numN xs key = 0)) := by
  refine ⟨(getA xs key).getD noAtt, (getA xs key).isSome, rfl, ?_⟩
  unfold numN
  cases getA xs key with
  | none => exact .inr (.inr ⟨rfl, by simp⟩)
  | some a =>
    simp only [Option.isSome_some, Option.getD_some]
    by_cases h : a.k = 2
    · exact .inl ⟨trivial, h, if_pos h⟩
    · exact .inr (.inl ⟨trivial, h, if_neg h⟩)

/-- A row of one, made behind a block. -/
theorem own6_of_one (w2 w : World) (o : Obj) (c : Chg) {w7 : World} (hb : Below w.heap.size w (w2.alloc o)) (h7 : Below ((w2.alloc o).alloc (.cells (cca c) 49)).heap.size ((w2.alloc o).alloc (.cells (cca c) 49)) w7) :
    w7.ownsRow w.heap.size 49 6 (.slice (some ⟨w2.heap.size + 1, 0, none⟩) 1 1) 1 (fl chC [c]) := by
  have h := owns_below (owns_mono (show ((w2.alloc o).alloc (.cells (cca c) 49)).ownsRow (w2.alloc o).heap.size 49 6 (.slice (some ⟨(w2.alloc o).heap.size, 0, none⟩) 1 1) 1 (fl chC [c]) from
    ⟨by rw [fl_one]; rfl, .inr ⟨_, 1, cca c, rfl, Nat.le_refl _, heap_alloc_new _ _, Nat.le_refl _, by simp [maxLen], by simp, by rw [fl_one]; rfl⟩⟩) hb.size) h7
  simp only [World.size_alloc] at h
  exact h

set_option maxRecDepth 100000 in
set_option maxHeartbeats 4000000 in
theorem rstep_good (v u : Value) (ks : List Key) (xs : List Att) (key by_ : Int) (w : World) (hk : Krow w v ks) (hl : ks.length ≤ 64) (hg : Good ks) (hv : Arow w u xs) (hr : Rise xs) (hx : xs.length ≤ 900) (he : sE ks key = 0) :
    Calls Try.prog 18 #[v, u, .int .i64 key, .int .i64 by_] w fun e w' => StepPost ks xs key (stepV (numN xs key) by_) w e w' := by
  have HF := rfind_any v ks key w hk
  unfold fndV at HF
  obtain ⟨h1, h2, h3⟩ := sE_zero.1 he
  generalize (fnd ks key).isSome = bb at *
  generalize (fnd ks key).getD noKey = kk at *
  obtain ⟨k1, k2, k3, k4, k5, k6⟩ := kk
  simp only at h2 h3
  subst h1 h2 h3
  have HF := Lib.hid HF
  have HK := Lib.hid hk
  have HV := Lib.hid hv
  obtain ⟨a, hb, hget, hways⟩ := num_ways xs key
  have HGE := fun W (h : Arow W u xs) => rget_any5 u xs key W h
  rw [hget] at HGE
  have HGE := Lib.hid HGE
  clear hget
  generalize numN xs key = m at *
  have hrm := hold_range (n := m) (show (0 : Int) ≤ 8 by omega)
  have hrb := hold_range (n := by_) (show (-8 : Int) ≤ 8 by omega)
  have H0 := Lib.hid (fun W => rhold_any m 0 8 (by omega) W)
  have H1 := Lib.hid (fun W => rhold_any by_ (-8) 8 (by omega) W)
  have H2 := Lib.hid (fun W => rhold_any (hold m 0 8 + hold by_ (-8) 8) 0 8 (by omega) W)
  have hst : stepV m by_ = hold (hold m 0 8 + hold by_ (-8) 8) 0 8 := rfl
  rw [← hst] at H2
  have hw : IntKind.i64.wrap (hold m 0 8 + hold by_ (-8) 8) = hold m 0 8 + hold by_ (-8) 8 := by
    generalize hold m 0 8 = a at *; generalize hold by_ (-8) 8 = b at *
    rw [IntKind.wrap_i64]; omega
  clear hst
  generalize stepV m by_ = n at *
  generalize hold m 0 8 = hm at *
  generalize hold by_ (-8) 8 = hby at *
  have HC := Lib.hid (fun W (s : Krow W v ks) => rcomplete_any v _ ks [setC key n] _ (s.below (kbelow_one W (.cells (cca (setC key n)) 49)) (Nat.le_refl _)) hl hg (crow_one W (setC key n) 49) (one_rise _) (by simp))
  have hpl := stepP_len hg key n
  have HA := Lib.hid (fun W u' (h : Arow W u xs) (h' : Crow W u' (stepP ks key n)) => rapply_any u u' xs (stepP ks key n) W h h' hr (stepP_rise ks key n) (by omega))
  have HM := Lib.hid (fun (l : List Att) W u' (h : Arow W u' l) (h' : Arow W u xs) => rsame_any5 u' u l xs W h h')
  obtain ⟨ua, ucap, rfl⟩ := hv.shape
  have hvl := hv.len
  obtain ⟨a1, a2, a3, a4, a5⟩ := a
  simp only at hways
  clear hk he hv hr hx hrm hrb hl hg hpl
  rcases hways with ⟨rfl, rfl, rfl⟩ | ⟨rfl, h2, rfl⟩ | ⟨rfl, rfl⟩
  · by_cases hn : n = 0
    · subst hn
      by_cases hq : app xs (stepP ks key 0) = xs
      · have eq : decide (app xs (stepP ks key 0) = xs) = true := decide_eq_true hq
        have HQ := Lib.hid (show stepQ ks xs key 0 = [] by unfold stepQ; rw [if_pos hq])
        clear hq
        go_enter Try.func18, Try.ntmps18
        go_wp2_with (first
          | (go_at_call 44; (refine HF.out.mono ?_); rintro e w1 ⟨rfl, hb1⟩; have HB1 := Lib.hid (hb1.alloc hb1.size (.cells #[.int .i64 k1, .bool true, .int .u8 2, .bool k4, .bool k5, .int .i64 k6] 59)); clear hb1)
          | (go_at_call 25; (with_reducible refine (HGE.out _ (HV.out.below HB1.out (Nat.le_refl _))).mono ?_); rintro e w2 ⟨rfl, hb2⟩; have HB2 := Lib.hid (below_add HB1.out (hb2.alloc hb2.size (.cells #[.int .u8 2, .int .i64 m, .int .u64 a4, .string a5] 47)) HB1.out.size); have hB3 := HB2.out.alloc HB2.out.size (.cells (cca (goneC key)) 49); have HB3 := Lib.hid hB3; have HV3 := Lib.hid (HV.out.below hB3 (Nat.le_refl _)); have hc3 := crow_one (w2.alloc (.cells #[.int .u8 2, .int .i64 m, .int .u64 a4, .string a5] 47)) (goneC key) 49; simp only [World.size_alloc] at hc3; have HC3 := Lib.hid hc3; clear hB3 hb2 hc3)
          | (go_at_call 45; (with_reducible refine (H0.out _).mono ?_); rintro e w3 ⟨rfl, rfl⟩)
          | (go_at_call 45; (with_reducible refine (H1.out _).mono ?_); rintro e w3 ⟨rfl, rfl⟩)
          | (go_at_call 45; (with_reducible refine (H2.out _).mono ?_); rintro e w3 ⟨rfl, rfl⟩)
          | (go_at_call 46; refine (HA.out _ _ HV3.out (by unfold stepP; rw [if_pos rfl]; exact HC3.out)).mono ?_; rintro e w7 ⟨u7, rfl, ho7, hb7⟩; have HB7 := Lib.hid (below_add HB3.out hb7 HB3.out.size); have HV7 := Lib.hid (HV3.out.below hb7 (Nat.le_refl _)); have HO7 := Lib.hid ho7.row; have HP7 := Lib.hid (own6_of_one w2 w (.cells #[.int .u8 2, .int .i64 m, .int .u64 a4, .string a5] 47) (goneC key) HB2.out hb7); clear ho7 hb7)
          | (go_at_call 20; refine (HM.out _ _ _ HO7.out HV7.out).mono ?_; rw [eq]; rintro e w8 ⟨rfl, q8, rfl⟩; have HB8 := Lib.hid (blw_drewN HB7.out q8); have HP8 := Lib.hid (owns_below HP7.out (blw_drewN (Below.refl _ _) q8))))
        go_ret2
        exact ⟨_, rfl, by rw [HQ.out]; exact own6_nil _ _, HB8.out⟩
      · have eq : decide (app xs (stepP ks key 0) = xs) = false := decide_eq_false hq
        have HQ := Lib.hid (show stepQ ks xs key 0 = stepP ks key 0 by unfold stepQ; rw [if_neg hq])
        clear hq
        go_enter Try.func18, Try.ntmps18
        go_wp2_with (first
          | (go_at_call 44; (refine HF.out.mono ?_); rintro e w1 ⟨rfl, hb1⟩; have HB1 := Lib.hid (hb1.alloc hb1.size (.cells #[.int .i64 k1, .bool true, .int .u8 2, .bool k4, .bool k5, .int .i64 k6] 59)); clear hb1)
          | (go_at_call 25; (with_reducible refine (HGE.out _ (HV.out.below HB1.out (Nat.le_refl _))).mono ?_); rintro e w2 ⟨rfl, hb2⟩; have HB2 := Lib.hid (below_add HB1.out (hb2.alloc hb2.size (.cells #[.int .u8 2, .int .i64 m, .int .u64 a4, .string a5] 47)) HB1.out.size); have hB3 := HB2.out.alloc HB2.out.size (.cells (cca (goneC key)) 49); have HB3 := Lib.hid hB3; have HV3 := Lib.hid (HV.out.below hB3 (Nat.le_refl _)); have hc3 := crow_one (w2.alloc (.cells #[.int .u8 2, .int .i64 m, .int .u64 a4, .string a5] 47)) (goneC key) 49; simp only [World.size_alloc] at hc3; have HC3 := Lib.hid hc3; clear hB3 hb2 hc3)
          | (go_at_call 45; (with_reducible refine (H0.out _).mono ?_); rintro e w3 ⟨rfl, rfl⟩)
          | (go_at_call 45; (with_reducible refine (H1.out _).mono ?_); rintro e w3 ⟨rfl, rfl⟩)
          | (go_at_call 45; (with_reducible refine (H2.out _).mono ?_); rintro e w3 ⟨rfl, rfl⟩)
          | (go_at_call 46; refine (HA.out _ _ HV3.out (by unfold stepP; rw [if_pos rfl]; exact HC3.out)).mono ?_; rintro e w7 ⟨u7, rfl, ho7, hb7⟩; have HB7 := Lib.hid (below_add HB3.out hb7 HB3.out.size); have HV7 := Lib.hid (HV3.out.below hb7 (Nat.le_refl _)); have HO7 := Lib.hid ho7.row; have HP7 := Lib.hid (own6_of_one w2 w (.cells #[.int .u8 2, .int .i64 m, .int .u64 a4, .string a5] 47) (goneC key) HB2.out hb7); clear ho7 hb7)
          | (go_at_call 20; refine (HM.out _ _ _ HO7.out HV7.out).mono ?_; rw [eq]; rintro e w8 ⟨rfl, q8, rfl⟩; have HB8 := Lib.hid (blw_drewN HB7.out q8); have HP8 := Lib.hid (owns_below HP7.out (blw_drewN (Below.refl _ _) q8))))
        go_ret2
        exact ⟨_, rfl, by rw [HQ.out]; exact HP8.out, HB8.out⟩
    · have en : (n != 0) = true := by simpa using hn
      have hse := stepP_set ks key n hn
      rw [hse.1, hse.2] at HC
      clear hse hn
      by_cases hq : app xs (stepP ks key n) = xs
      · have eq : decide (app xs (stepP ks key n) = xs) = true := decide_eq_true hq
        have HQ := Lib.hid (show stepQ ks xs key n = [] by unfold stepQ; rw [if_pos hq])
        clear hq
        go_enter Try.func18, Try.ntmps18
        go_wp2_with (first
          | (go_at_call 44; (refine HF.out.mono ?_); rintro e w1 ⟨rfl, hb1⟩; have HB1 := Lib.hid (hb1.alloc hb1.size (.cells #[.int .i64 k1, .bool true, .int .u8 2, .bool k4, .bool k5, .int .i64 k6] 59)); clear hb1)
          | (go_at_call 25; (with_reducible refine (HGE.out _ (HV.out.below HB1.out (Nat.le_refl _))).mono ?_); rintro e w2 ⟨rfl, hb2⟩; have HB2 := Lib.hid (below_add HB1.out (hb2.alloc hb2.size (.cells #[.int .u8 2, .int .i64 m, .int .u64 a4, .string a5] 47)) HB1.out.size); have hB3 := HB2.out.alloc HB2.out.size (.cells (cca (goneC key)) 49); have HB3 := Lib.hid hB3; have hc := HC.out _ (HK.out.below hB3 (Nat.le_refl _)); simp only [World.size_alloc] at hc; have HC2 := Lib.hid hc; have HB4 := Lib.hid (hB3.alloc hB3.size (.cells (cca (setC key n)) 49)); have HV4 := Lib.hid (HV.out.below HB4.out (Nat.le_refl _)); clear hB3 hb2 hc)
          | (go_at_call 45; (with_reducible refine (H0.out _).mono ?_); rintro e w3 ⟨rfl, rfl⟩)
          | (go_at_call 45; (with_reducible refine (H1.out _).mono ?_); rintro e w3 ⟨rfl, rfl⟩)
          | (go_at_call 45; (with_reducible refine (H2.out _).mono ?_); rintro e w3 ⟨rfl, rfl⟩)
          | (go_at_call 17; refine HC2.out.mono ?_; rintro e w6 ⟨u6, rfl, ho6, hb6⟩; have HB6 := Lib.hid (HB4.out.trans (hb6.mono (by have := HB4.out.size; simpa using this))); have HV6 := Lib.hid (HV4.out.below hb6 (by simp)); have HO6 := Lib.hid (owns_mono ho6 (show w.heap.size ≤ _ by have := HB4.out.size; simpa using this)); clear ho6 hb6)
          | (go_at_call 46; refine (HA.out _ _ HV6.out (Row.of_owns (C := chC) HO6.out).1).mono ?_; rintro e w7 ⟨u7, rfl, ho7, hb7⟩; have HB7 := Lib.hid (below_add HB6.out hb7 HB6.out.size); have HV7 := Lib.hid (HV6.out.below hb7 (Nat.le_refl _)); have HO7 := Lib.hid ho7.row; have HP7 := Lib.hid (owns_below HO6.out hb7); clear ho7 hb7)
          | (go_at_call 20; refine (HM.out _ _ _ HO7.out HV7.out).mono ?_; rw [eq]; rintro e w8 ⟨rfl, q8, rfl⟩; have HB8 := Lib.hid (blw_drewN HB7.out q8); have HP8 := Lib.hid (owns_below HP7.out (blw_drewN (Below.refl _ _) q8))))
        go_ret2
        exact ⟨_, rfl, by rw [HQ.out]; exact own6_nil _ _, HB8.out⟩
      · have eq : decide (app xs (stepP ks key n) = xs) = false := decide_eq_false hq
        have HQ := Lib.hid (show stepQ ks xs key n = stepP ks key n by unfold stepQ; rw [if_neg hq])
        clear hq
        go_enter Try.func18, Try.ntmps18
        go_wp2_with (first
          | (go_at_call 44; (refine HF.out.mono ?_); rintro e w1 ⟨rfl, hb1⟩; have HB1 := Lib.hid (hb1.alloc hb1.size (.cells #[.int .i64 k1, .bool true, .int .u8 2, .bool k4, .bool k5, .int .i64 k6] 59)); clear hb1)
          | (go_at_call 25; (with_reducible refine (HGE.out _ (HV.out.below HB1.out (Nat.le_refl _))).mono ?_); rintro e w2 ⟨rfl, hb2⟩; have HB2 := Lib.hid (below_add HB1.out (hb2.alloc hb2.size (.cells #[.int .u8 2, .int .i64 m, .int .u64 a4, .string a5] 47)) HB1.out.size); have hB3 := HB2.out.alloc HB2.out.size (.cells (cca (goneC key)) 49); have HB3 := Lib.hid hB3; have hc := HC.out _ (HK.out.below hB3 (Nat.le_refl _)); simp only [World.size_alloc] at hc; have HC2 := Lib.hid hc; have HB4 := Lib.hid (hB3.alloc hB3.size (.cells (cca (setC key n)) 49)); have HV4 := Lib.hid (HV.out.below HB4.out (Nat.le_refl _)); clear hB3 hb2 hc)
          | (go_at_call 45; (with_reducible refine (H0.out _).mono ?_); rintro e w3 ⟨rfl, rfl⟩)
          | (go_at_call 45; (with_reducible refine (H1.out _).mono ?_); rintro e w3 ⟨rfl, rfl⟩)
          | (go_at_call 45; (with_reducible refine (H2.out _).mono ?_); rintro e w3 ⟨rfl, rfl⟩)
          | (go_at_call 17; refine HC2.out.mono ?_; rintro e w6 ⟨u6, rfl, ho6, hb6⟩; have HB6 := Lib.hid (HB4.out.trans (hb6.mono (by have := HB4.out.size; simpa using this))); have HV6 := Lib.hid (HV4.out.below hb6 (by simp)); have HO6 := Lib.hid (owns_mono ho6 (show w.heap.size ≤ _ by have := HB4.out.size; simpa using this)); clear ho6 hb6)
          | (go_at_call 46; refine (HA.out _ _ HV6.out (Row.of_owns (C := chC) HO6.out).1).mono ?_; rintro e w7 ⟨u7, rfl, ho7, hb7⟩; have HB7 := Lib.hid (below_add HB6.out hb7 HB6.out.size); have HV7 := Lib.hid (HV6.out.below hb7 (Nat.le_refl _)); have HO7 := Lib.hid ho7.row; have HP7 := Lib.hid (owns_below HO6.out hb7); clear ho7 hb7)
          | (go_at_call 20; refine (HM.out _ _ _ HO7.out HV7.out).mono ?_; rw [eq]; rintro e w8 ⟨rfl, q8, rfl⟩; have HB8 := Lib.hid (blw_drewN HB7.out q8); have HP8 := Lib.hid (owns_below HP7.out (blw_drewN (Below.refl _ _) q8))))
        go_ret2
        exact ⟨_, rfl, by rw [HQ.out]; exact HP8.out, HB8.out⟩
  · have e2 : (a2 == 2) = false := by simpa using h2
    clear h2
    by_cases hn : n = 0
    · subst hn
      by_cases hq : app xs (stepP ks key 0) = xs
      · have eq : decide (app xs (stepP ks key 0) = xs) = true := decide_eq_true hq
        have HQ := Lib.hid (show stepQ ks xs key 0 = [] by unfold stepQ; rw [if_pos hq])
        clear hq
        go_enter Try.func18, Try.ntmps18
        go_wp2_with (first
          | (go_at_call 44; (refine HF.out.mono ?_); rintro e w1 ⟨rfl, hb1⟩; have HB1 := Lib.hid (hb1.alloc hb1.size (.cells #[.int .i64 k1, .bool true, .int .u8 2, .bool k4, .bool k5, .int .i64 k6] 59)); clear hb1)
          | (go_at_call 25; (with_reducible refine (HGE.out _ (HV.out.below HB1.out (Nat.le_refl _))).mono ?_); rintro e w2 ⟨rfl, hb2⟩; have HB2 := Lib.hid (below_add HB1.out (hb2.alloc hb2.size (.cells #[.int .u8 a2, .int .i64 a3, .int .u64 a4, .string a5] 47)) HB1.out.size); have hB3 := HB2.out.alloc HB2.out.size (.cells (cca (goneC key)) 49); have HB3 := Lib.hid hB3; have HV3 := Lib.hid (HV.out.below hB3 (Nat.le_refl _)); have hc3 := crow_one (w2.alloc (.cells #[.int .u8 a2, .int .i64 a3, .int .u64 a4, .string a5] 47)) (goneC key) 49; simp only [World.size_alloc] at hc3; have HC3 := Lib.hid hc3; clear hB3 hb2 hc3)
          | (go_at_call 45; (with_reducible refine (H0.out _).mono ?_); rintro e w3 ⟨rfl, rfl⟩)
          | (go_at_call 45; (with_reducible refine (H1.out _).mono ?_); rintro e w3 ⟨rfl, rfl⟩)
          | (go_at_call 45; (with_reducible refine (H2.out _).mono ?_); rintro e w3 ⟨rfl, rfl⟩)
          | (go_at_call 46; refine (HA.out _ _ HV3.out (by unfold stepP; rw [if_pos rfl]; exact HC3.out)).mono ?_; rintro e w7 ⟨u7, rfl, ho7, hb7⟩; have HB7 := Lib.hid (below_add HB3.out hb7 HB3.out.size); have HV7 := Lib.hid (HV3.out.below hb7 (Nat.le_refl _)); have HO7 := Lib.hid ho7.row; have HP7 := Lib.hid (own6_of_one w2 w (.cells #[.int .u8 a2, .int .i64 a3, .int .u64 a4, .string a5] 47) (goneC key) HB2.out hb7); clear ho7 hb7)
          | (go_at_call 20; refine (HM.out _ _ _ HO7.out HV7.out).mono ?_; rw [eq]; rintro e w8 ⟨rfl, q8, rfl⟩; have HB8 := Lib.hid (blw_drewN HB7.out q8); have HP8 := Lib.hid (owns_below HP7.out (blw_drewN (Below.refl _ _) q8))))
        go_ret2
        exact ⟨_, rfl, by rw [HQ.out]; exact own6_nil _ _, HB8.out⟩
      · have eq : decide (app xs (stepP ks key 0) = xs) = false := decide_eq_false hq
        have HQ := Lib.hid (show stepQ ks xs key 0 = stepP ks key 0 by unfold stepQ; rw [if_neg hq])
        clear hq
        go_enter Try.func18, Try.ntmps18
        go_wp2_with (first
          | (go_at_call 44; (refine HF.out.mono ?_); rintro e w1 ⟨rfl, hb1⟩; have HB1 := Lib.hid (hb1.alloc hb1.size (.cells #[.int .i64 k1, .bool true, .int .u8 2, .bool k4, .bool k5, .int .i64 k6] 59)); clear hb1)
          | (go_at_call 25; (with_reducible refine (HGE.out _ (HV.out.below HB1.out (Nat.le_refl _))).mono ?_); rintro e w2 ⟨rfl, hb2⟩; have HB2 := Lib.hid (below_add HB1.out (hb2.alloc hb2.size (.cells #[.int .u8 a2, .int .i64 a3, .int .u64 a4, .string a5] 47)) HB1.out.size); have hB3 := HB2.out.alloc HB2.out.size (.cells (cca (goneC key)) 49); have HB3 := Lib.hid hB3; have HV3 := Lib.hid (HV.out.below hB3 (Nat.le_refl _)); have hc3 := crow_one (w2.alloc (.cells #[.int .u8 a2, .int .i64 a3, .int .u64 a4, .string a5] 47)) (goneC key) 49; simp only [World.size_alloc] at hc3; have HC3 := Lib.hid hc3; clear hB3 hb2 hc3)
          | (go_at_call 45; (with_reducible refine (H0.out _).mono ?_); rintro e w3 ⟨rfl, rfl⟩)
          | (go_at_call 45; (with_reducible refine (H1.out _).mono ?_); rintro e w3 ⟨rfl, rfl⟩)
          | (go_at_call 45; (with_reducible refine (H2.out _).mono ?_); rintro e w3 ⟨rfl, rfl⟩)
          | (go_at_call 46; refine (HA.out _ _ HV3.out (by unfold stepP; rw [if_pos rfl]; exact HC3.out)).mono ?_; rintro e w7 ⟨u7, rfl, ho7, hb7⟩; have HB7 := Lib.hid (below_add HB3.out hb7 HB3.out.size); have HV7 := Lib.hid (HV3.out.below hb7 (Nat.le_refl _)); have HO7 := Lib.hid ho7.row; have HP7 := Lib.hid (own6_of_one w2 w (.cells #[.int .u8 a2, .int .i64 a3, .int .u64 a4, .string a5] 47) (goneC key) HB2.out hb7); clear ho7 hb7)
          | (go_at_call 20; refine (HM.out _ _ _ HO7.out HV7.out).mono ?_; rw [eq]; rintro e w8 ⟨rfl, q8, rfl⟩; have HB8 := Lib.hid (blw_drewN HB7.out q8); have HP8 := Lib.hid (owns_below HP7.out (blw_drewN (Below.refl _ _) q8))))
        go_ret2
        exact ⟨_, rfl, by rw [HQ.out]; exact HP8.out, HB8.out⟩
    · have en : (n != 0) = true := by simpa using hn
      have hse := stepP_set ks key n hn
      rw [hse.1, hse.2] at HC
      clear hse hn
      by_cases hq : app xs (stepP ks key n) = xs
      · have eq : decide (app xs (stepP ks key n) = xs) = true := decide_eq_true hq
        have HQ := Lib.hid (show stepQ ks xs key n = [] by unfold stepQ; rw [if_pos hq])
        clear hq
        go_enter Try.func18, Try.ntmps18
        go_wp2_with (first
          | (go_at_call 44; (refine HF.out.mono ?_); rintro e w1 ⟨rfl, hb1⟩; have HB1 := Lib.hid (hb1.alloc hb1.size (.cells #[.int .i64 k1, .bool true, .int .u8 2, .bool k4, .bool k5, .int .i64 k6] 59)); clear hb1)
          | (go_at_call 25; (with_reducible refine (HGE.out _ (HV.out.below HB1.out (Nat.le_refl _))).mono ?_); rintro e w2 ⟨rfl, hb2⟩; have HB2 := Lib.hid (below_add HB1.out (hb2.alloc hb2.size (.cells #[.int .u8 a2, .int .i64 a3, .int .u64 a4, .string a5] 47)) HB1.out.size); have hB3 := HB2.out.alloc HB2.out.size (.cells (cca (goneC key)) 49); have HB3 := Lib.hid hB3; have hc := HC.out _ (HK.out.below hB3 (Nat.le_refl _)); simp only [World.size_alloc] at hc; have HC2 := Lib.hid hc; have HB4 := Lib.hid (hB3.alloc hB3.size (.cells (cca (setC key n)) 49)); have HV4 := Lib.hid (HV.out.below HB4.out (Nat.le_refl _)); clear hB3 hb2 hc)
          | (go_at_call 45; (with_reducible refine (H0.out _).mono ?_); rintro e w3 ⟨rfl, rfl⟩)
          | (go_at_call 45; (with_reducible refine (H1.out _).mono ?_); rintro e w3 ⟨rfl, rfl⟩)
          | (go_at_call 45; (with_reducible refine (H2.out _).mono ?_); rintro e w3 ⟨rfl, rfl⟩)
          | (go_at_call 17; refine HC2.out.mono ?_; rintro e w6 ⟨u6, rfl, ho6, hb6⟩; have HB6 := Lib.hid (HB4.out.trans (hb6.mono (by have := HB4.out.size; simpa using this))); have HV6 := Lib.hid (HV4.out.below hb6 (by simp)); have HO6 := Lib.hid (owns_mono ho6 (show w.heap.size ≤ _ by have := HB4.out.size; simpa using this)); clear ho6 hb6)
          | (go_at_call 46; refine (HA.out _ _ HV6.out (Row.of_owns (C := chC) HO6.out).1).mono ?_; rintro e w7 ⟨u7, rfl, ho7, hb7⟩; have HB7 := Lib.hid (below_add HB6.out hb7 HB6.out.size); have HV7 := Lib.hid (HV6.out.below hb7 (Nat.le_refl _)); have HO7 := Lib.hid ho7.row; have HP7 := Lib.hid (owns_below HO6.out hb7); clear ho7 hb7)
          | (go_at_call 20; refine (HM.out _ _ _ HO7.out HV7.out).mono ?_; rw [eq]; rintro e w8 ⟨rfl, q8, rfl⟩; have HB8 := Lib.hid (blw_drewN HB7.out q8); have HP8 := Lib.hid (owns_below HP7.out (blw_drewN (Below.refl _ _) q8))))
        go_ret2
        exact ⟨_, rfl, by rw [HQ.out]; exact own6_nil _ _, HB8.out⟩
      · have eq : decide (app xs (stepP ks key n) = xs) = false := decide_eq_false hq
        have HQ := Lib.hid (show stepQ ks xs key n = stepP ks key n by unfold stepQ; rw [if_neg hq])
        clear hq
        go_enter Try.func18, Try.ntmps18
        go_wp2_with (first
          | (go_at_call 44; (refine HF.out.mono ?_); rintro e w1 ⟨rfl, hb1⟩; have HB1 := Lib.hid (hb1.alloc hb1.size (.cells #[.int .i64 k1, .bool true, .int .u8 2, .bool k4, .bool k5, .int .i64 k6] 59)); clear hb1)
          | (go_at_call 25; (with_reducible refine (HGE.out _ (HV.out.below HB1.out (Nat.le_refl _))).mono ?_); rintro e w2 ⟨rfl, hb2⟩; have HB2 := Lib.hid (below_add HB1.out (hb2.alloc hb2.size (.cells #[.int .u8 a2, .int .i64 a3, .int .u64 a4, .string a5] 47)) HB1.out.size); have hB3 := HB2.out.alloc HB2.out.size (.cells (cca (goneC key)) 49); have HB3 := Lib.hid hB3; have hc := HC.out _ (HK.out.below hB3 (Nat.le_refl _)); simp only [World.size_alloc] at hc; have HC2 := Lib.hid hc; have HB4 := Lib.hid (hB3.alloc hB3.size (.cells (cca (setC key n)) 49)); have HV4 := Lib.hid (HV.out.below HB4.out (Nat.le_refl _)); clear hB3 hb2 hc)
          | (go_at_call 45; (with_reducible refine (H0.out _).mono ?_); rintro e w3 ⟨rfl, rfl⟩)
          | (go_at_call 45; (with_reducible refine (H1.out _).mono ?_); rintro e w3 ⟨rfl, rfl⟩)
          | (go_at_call 45; (with_reducible refine (H2.out _).mono ?_); rintro e w3 ⟨rfl, rfl⟩)
          | (go_at_call 17; refine HC2.out.mono ?_; rintro e w6 ⟨u6, rfl, ho6, hb6⟩; have HB6 := Lib.hid (HB4.out.trans (hb6.mono (by have := HB4.out.size; simpa using this))); have HV6 := Lib.hid (HV4.out.below hb6 (by simp)); have HO6 := Lib.hid (owns_mono ho6 (show w.heap.size ≤ _ by have := HB4.out.size; simpa using this)); clear ho6 hb6)
          | (go_at_call 46; refine (HA.out _ _ HV6.out (Row.of_owns (C := chC) HO6.out).1).mono ?_; rintro e w7 ⟨u7, rfl, ho7, hb7⟩; have HB7 := Lib.hid (below_add HB6.out hb7 HB6.out.size); have HV7 := Lib.hid (HV6.out.below hb7 (Nat.le_refl _)); have HO7 := Lib.hid ho7.row; have HP7 := Lib.hid (owns_below HO6.out hb7); clear ho7 hb7)
          | (go_at_call 20; refine (HM.out _ _ _ HO7.out HV7.out).mono ?_; rw [eq]; rintro e w8 ⟨rfl, q8, rfl⟩; have HB8 := Lib.hid (blw_drewN HB7.out q8); have HP8 := Lib.hid (owns_below HP7.out (blw_drewN (Below.refl _ _) q8))))
        go_ret2
        exact ⟨_, rfl, by rw [HQ.out]; exact HP8.out, HB8.out⟩
  · by_cases hn : n = 0
    · subst hn
      by_cases hq : app xs (stepP ks key 0) = xs
      · have eq : decide (app xs (stepP ks key 0) = xs) = true := decide_eq_true hq
        have HQ := Lib.hid (show stepQ ks xs key 0 = [] by unfold stepQ; rw [if_pos hq])
        clear hq
        go_enter Try.func18, Try.ntmps18
        go_wp2_with (first
          | (go_at_call 44; (refine HF.out.mono ?_); rintro e w1 ⟨rfl, hb1⟩; have HB1 := Lib.hid (hb1.alloc hb1.size (.cells #[.int .i64 k1, .bool true, .int .u8 2, .bool k4, .bool k5, .int .i64 k6] 59)); clear hb1)
          | (go_at_call 25; (with_reducible refine (HGE.out _ (HV.out.below HB1.out (Nat.le_refl _))).mono ?_); rintro e w2 ⟨rfl, hb2⟩; have HB2 := Lib.hid (below_add HB1.out (hb2.alloc hb2.size (.cells #[.int .u8 a2, .int .i64 a3, .int .u64 a4, .string a5] 47)) HB1.out.size); have hB3 := HB2.out.alloc HB2.out.size (.cells (cca (goneC key)) 49); have HB3 := Lib.hid hB3; have HV3 := Lib.hid (HV.out.below hB3 (Nat.le_refl _)); have hc3 := crow_one (w2.alloc (.cells #[.int .u8 a2, .int .i64 a3, .int .u64 a4, .string a5] 47)) (goneC key) 49; simp only [World.size_alloc] at hc3; have HC3 := Lib.hid hc3; clear hB3 hb2 hc3)
          | (go_at_call 45; (with_reducible refine (H0.out _).mono ?_); rintro e w3 ⟨rfl, rfl⟩)
          | (go_at_call 45; (with_reducible refine (H1.out _).mono ?_); rintro e w3 ⟨rfl, rfl⟩)
          | (go_at_call 45; (with_reducible refine (H2.out _).mono ?_); rintro e w3 ⟨rfl, rfl⟩)
          | (go_at_call 46; refine (HA.out _ _ HV3.out (by unfold stepP; rw [if_pos rfl]; exact HC3.out)).mono ?_; rintro e w7 ⟨u7, rfl, ho7, hb7⟩; have HB7 := Lib.hid (below_add HB3.out hb7 HB3.out.size); have HV7 := Lib.hid (HV3.out.below hb7 (Nat.le_refl _)); have HO7 := Lib.hid ho7.row; have HP7 := Lib.hid (own6_of_one w2 w (.cells #[.int .u8 a2, .int .i64 a3, .int .u64 a4, .string a5] 47) (goneC key) HB2.out hb7); clear ho7 hb7)
          | (go_at_call 20; refine (HM.out _ _ _ HO7.out HV7.out).mono ?_; rw [eq]; rintro e w8 ⟨rfl, q8, rfl⟩; have HB8 := Lib.hid (blw_drewN HB7.out q8); have HP8 := Lib.hid (owns_below HP7.out (blw_drewN (Below.refl _ _) q8))))
        go_ret2
        exact ⟨_, rfl, by rw [HQ.out]; exact own6_nil _ _, HB8.out⟩
      · have eq : decide (app xs (stepP ks key 0) = xs) = false := decide_eq_false hq
        have HQ := Lib.hid (show stepQ ks xs key 0 = stepP ks key 0 by unfold stepQ; rw [if_neg hq])
        clear hq
        go_enter Try.func18, Try.ntmps18
        go_wp2_with (first
          | (go_at_call 44; (refine HF.out.mono ?_); rintro e w1 ⟨rfl, hb1⟩; have HB1 := Lib.hid (hb1.alloc hb1.size (.cells #[.int .i64 k1, .bool true, .int .u8 2, .bool k4, .bool k5, .int .i64 k6] 59)); clear hb1)
          | (go_at_call 25; (with_reducible refine (HGE.out _ (HV.out.below HB1.out (Nat.le_refl _))).mono ?_); rintro e w2 ⟨rfl, hb2⟩; have HB2 := Lib.hid (below_add HB1.out (hb2.alloc hb2.size (.cells #[.int .u8 a2, .int .i64 a3, .int .u64 a4, .string a5] 47)) HB1.out.size); have hB3 := HB2.out.alloc HB2.out.size (.cells (cca (goneC key)) 49); have HB3 := Lib.hid hB3; have HV3 := Lib.hid (HV.out.below hB3 (Nat.le_refl _)); have hc3 := crow_one (w2.alloc (.cells #[.int .u8 a2, .int .i64 a3, .int .u64 a4, .string a5] 47)) (goneC key) 49; simp only [World.size_alloc] at hc3; have HC3 := Lib.hid hc3; clear hB3 hb2 hc3)
          | (go_at_call 45; (with_reducible refine (H0.out _).mono ?_); rintro e w3 ⟨rfl, rfl⟩)
          | (go_at_call 45; (with_reducible refine (H1.out _).mono ?_); rintro e w3 ⟨rfl, rfl⟩)
          | (go_at_call 45; (with_reducible refine (H2.out _).mono ?_); rintro e w3 ⟨rfl, rfl⟩)
          | (go_at_call 46; refine (HA.out _ _ HV3.out (by unfold stepP; rw [if_pos rfl]; exact HC3.out)).mono ?_; rintro e w7 ⟨u7, rfl, ho7, hb7⟩; have HB7 := Lib.hid (below_add HB3.out hb7 HB3.out.size); have HV7 := Lib.hid (HV3.out.below hb7 (Nat.le_refl _)); have HO7 := Lib.hid ho7.row; have HP7 := Lib.hid (own6_of_one w2 w (.cells #[.int .u8 a2, .int .i64 a3, .int .u64 a4, .string a5] 47) (goneC key) HB2.out hb7); clear ho7 hb7)
          | (go_at_call 20; refine (HM.out _ _ _ HO7.out HV7.out).mono ?_; rw [eq]; rintro e w8 ⟨rfl, q8, rfl⟩; have HB8 := Lib.hid (blw_drewN HB7.out q8); have HP8 := Lib.hid (owns_below HP7.out (blw_drewN (Below.refl _ _) q8))))
        go_ret2
        exact ⟨_, rfl, by rw [HQ.out]; exact HP8.out, HB8.out⟩
    · have en : (n != 0) = true := by simpa using hn
      have hse := stepP_set ks key n hn
      rw [hse.1, hse.2] at HC
      clear hse hn
      by_cases hq : app xs (stepP ks key n) = xs
      · have eq : decide (app xs (stepP ks key n) = xs) = true := decide_eq_true hq
        have HQ := Lib.hid (show stepQ ks xs key n = [] by unfold stepQ; rw [if_pos hq])
        clear hq
        go_enter Try.func18, Try.ntmps18
        go_wp2_with (first
          | (go_at_call 44; (refine HF.out.mono ?_); rintro e w1 ⟨rfl, hb1⟩; have HB1 := Lib.hid (hb1.alloc hb1.size (.cells #[.int .i64 k1, .bool true, .int .u8 2, .bool k4, .bool k5, .int .i64 k6] 59)); clear hb1)
          | (go_at_call 25; (with_reducible refine (HGE.out _ (HV.out.below HB1.out (Nat.le_refl _))).mono ?_); rintro e w2 ⟨rfl, hb2⟩; have HB2 := Lib.hid (below_add HB1.out (hb2.alloc hb2.size (.cells #[.int .u8 a2, .int .i64 a3, .int .u64 a4, .string a5] 47)) HB1.out.size); have hB3 := HB2.out.alloc HB2.out.size (.cells (cca (goneC key)) 49); have HB3 := Lib.hid hB3; have hc := HC.out _ (HK.out.below hB3 (Nat.le_refl _)); simp only [World.size_alloc] at hc; have HC2 := Lib.hid hc; have HB4 := Lib.hid (hB3.alloc hB3.size (.cells (cca (setC key n)) 49)); have HV4 := Lib.hid (HV.out.below HB4.out (Nat.le_refl _)); clear hB3 hb2 hc)
          | (go_at_call 45; (with_reducible refine (H0.out _).mono ?_); rintro e w3 ⟨rfl, rfl⟩)
          | (go_at_call 45; (with_reducible refine (H1.out _).mono ?_); rintro e w3 ⟨rfl, rfl⟩)
          | (go_at_call 45; (with_reducible refine (H2.out _).mono ?_); rintro e w3 ⟨rfl, rfl⟩)
          | (go_at_call 17; refine HC2.out.mono ?_; rintro e w6 ⟨u6, rfl, ho6, hb6⟩; have HB6 := Lib.hid (HB4.out.trans (hb6.mono (by have := HB4.out.size; simpa using this))); have HV6 := Lib.hid (HV4.out.below hb6 (by simp)); have HO6 := Lib.hid (owns_mono ho6 (show w.heap.size ≤ _ by have := HB4.out.size; simpa using this)); clear ho6 hb6)
          | (go_at_call 46; refine (HA.out _ _ HV6.out (Row.of_owns (C := chC) HO6.out).1).mono ?_; rintro e w7 ⟨u7, rfl, ho7, hb7⟩; have HB7 := Lib.hid (below_add HB6.out hb7 HB6.out.size); have HV7 := Lib.hid (HV6.out.below hb7 (Nat.le_refl _)); have HO7 := Lib.hid ho7.row; have HP7 := Lib.hid (owns_below HO6.out hb7); clear ho7 hb7)
          | (go_at_call 20; refine (HM.out _ _ _ HO7.out HV7.out).mono ?_; rw [eq]; rintro e w8 ⟨rfl, q8, rfl⟩; have HB8 := Lib.hid (blw_drewN HB7.out q8); have HP8 := Lib.hid (owns_below HP7.out (blw_drewN (Below.refl _ _) q8))))
        go_ret2
        exact ⟨_, rfl, by rw [HQ.out]; exact own6_nil _ _, HB8.out⟩
      · have eq : decide (app xs (stepP ks key n) = xs) = false := decide_eq_false hq
        have HQ := Lib.hid (show stepQ ks xs key n = stepP ks key n by unfold stepQ; rw [if_neg hq])
        clear hq
        go_enter Try.func18, Try.ntmps18
        go_wp2_with (first
          | (go_at_call 44; (refine HF.out.mono ?_); rintro e w1 ⟨rfl, hb1⟩; have HB1 := Lib.hid (hb1.alloc hb1.size (.cells #[.int .i64 k1, .bool true, .int .u8 2, .bool k4, .bool k5, .int .i64 k6] 59)); clear hb1)
          | (go_at_call 25; (with_reducible refine (HGE.out _ (HV.out.below HB1.out (Nat.le_refl _))).mono ?_); rintro e w2 ⟨rfl, hb2⟩; have HB2 := Lib.hid (below_add HB1.out (hb2.alloc hb2.size (.cells #[.int .u8 a2, .int .i64 a3, .int .u64 a4, .string a5] 47)) HB1.out.size); have hB3 := HB2.out.alloc HB2.out.size (.cells (cca (goneC key)) 49); have HB3 := Lib.hid hB3; have hc := HC.out _ (HK.out.below hB3 (Nat.le_refl _)); simp only [World.size_alloc] at hc; have HC2 := Lib.hid hc; have HB4 := Lib.hid (hB3.alloc hB3.size (.cells (cca (setC key n)) 49)); have HV4 := Lib.hid (HV.out.below HB4.out (Nat.le_refl _)); clear hB3 hb2 hc)
          | (go_at_call 45; (with_reducible refine (H0.out _).mono ?_); rintro e w3 ⟨rfl, rfl⟩)
          | (go_at_call 45; (with_reducible refine (H1.out _).mono ?_); rintro e w3 ⟨rfl, rfl⟩)
          | (go_at_call 45; (with_reducible refine (H2.out _).mono ?_); rintro e w3 ⟨rfl, rfl⟩)
          | (go_at_call 17; refine HC2.out.mono ?_; rintro e w6 ⟨u6, rfl, ho6, hb6⟩; have HB6 := Lib.hid (HB4.out.trans (hb6.mono (by have := HB4.out.size; simpa using this))); have HV6 := Lib.hid (HV4.out.below hb6 (by simp)); have HO6 := Lib.hid (owns_mono ho6 (show w.heap.size ≤ _ by have := HB4.out.size; simpa using this)); clear ho6 hb6)
          | (go_at_call 46; refine (HA.out _ _ HV6.out (Row.of_owns (C := chC) HO6.out).1).mono ?_; rintro e w7 ⟨u7, rfl, ho7, hb7⟩; have HB7 := Lib.hid (below_add HB6.out hb7 HB6.out.size); have HV7 := Lib.hid (HV6.out.below hb7 (Nat.le_refl _)); have HO7 := Lib.hid ho7.row; have HP7 := Lib.hid (owns_below HO6.out hb7); clear ho7 hb7)
          | (go_at_call 20; refine (HM.out _ _ _ HO7.out HV7.out).mono ?_; rw [eq]; rintro e w8 ⟨rfl, q8, rfl⟩; have HB8 := Lib.hid (blw_drewN HB7.out q8); have HP8 := Lib.hid (owns_below HP7.out (blw_drewN (Below.refl _ _) q8))))
        go_ret2
        exact ⟨_, rfl, by rw [HQ.out]; exact HP8.out, HB8.out⟩
/-- The reference's Step, of a set whose keys rise. -/
theorem rstep_any (v u : Value) (ks : List Key) (xs : List Att) (key by_ : Int) (w : World) (hk : Krow w v ks) (hl : ks.length ≤ 64) (hg : Good ks) (hv : Arow w u xs) (hr : Rise xs) (hx : xs.length ≤ 900) :
    Calls Try.prog 18 #[v, u, .int .i64 key, .int .i64 by_] w fun e w' => ∃ u', e = .returned (.tuple #[u', .int .i64 (sE ks key)]) ∧ Own6 w w' u' (sL ks xs key (stepV (numN xs key) by_)) ∧ Below w.heap.size w w' := by
  unfold sL
  rcases sE_only ks key with h | h | h
  · refine (rstep_good v u ks xs key by_ w hk hl hg hv hr hx h).mono fun e w' ⟨u', h4, h5, h6⟩ => ⟨u', by rw [h4, h], ?_, h6⟩
    rw [if_pos h]; exact h5
  · refine (rstep_none v u ks key by_ w hk h).mono fun e w' ⟨h1, h2⟩ => ⟨.slice none 0 0, by rw [h1, h], ?_, h2⟩
    rw [if_neg (by rw [h]; decide)]; exact own6_nil _ _
  · refine (rstep_scope v u ks key by_ w hk h).mono fun e w' ⟨h1, h2⟩ => ⟨.slice none 0 0, by rw [h1, h], ?_, h2⟩
    rw [if_neg (by rw [h]; decide)]; exact own6_nil _ _
end Go.Proofs.Ythcakinllcffoaa
