
import Derived.Test.YthcakinllcffoaaH3
import Derived.Test.YthcakinllcffoaaH4
/- H5: Step -/
namespace Go.Proofs.Ythcakinllcffoaa
open Go.RowKit
set_option linter.unusedVariables false

/-- A number held within two. -/
def hold (n lo hi : Int) : Int := if n < lo then lo else if hi < n then hi else n
theorem hold_range {n lo hi : Int} (h : lo ≤ hi) : lo ≤ hold n lo hi ∧ hold n lo hi ≤ hi := by
  unfold hold; split
  · omega
  · split <;> omega
theorem hold_same {n lo hi : Int} (h1 : lo ≤ n) (h2 : n ≤ hi) : hold n lo hi = n := by
  unfold hold; rw [if_neg (by omega), if_neg (by omega)]
/-- The number to which a step leads. -/
def stepV (n by_ : Int) : Int := hold (hold n 0 8 + hold by_ (-8) 8) 0 8
theorem stepV_range (n by_ : Int) : 0 ≤ stepV n by_ ∧ stepV n by_ ≤ 8 := hold_range (by omega)
theorem stepV_zero {n : Int} (h1 : 0 ≤ n) (h2 : n ≤ 8) : stepV n 0 = n := by
  unfold stepV; rw [hold_same h1 h2, hold_same (by omega : (-8 : Int) ≤ 0) (by omega), Int.add_zero, hold_same h1 h2]
theorem hold_mm {n lo hi : Int} (h : lo ≤ hi) : min (max n lo) hi = hold n lo hi := by
  unfold hold; split
  · omega
  · split <;> omega
theorem held_any (n : Int) (w : World) :
    Calls Try.prog 60 #[.int .i64 n] w fun e w' => e = .returned (.int .i64 (hold n 0 8)) ∧ w = w' := by
  have HH := Lib.hid (hold_mm (n := n) (show (0 : Int) ≤ 8 by omega))
  go_enter Try.func60, Try.ntmps60
  go_wp2
  go_ret
  exact ⟨ret_int HH.out, rfl⟩
theorem stepped_any (n by_ : Int) (w : World) :
    Calls Try.prog 37 #[.int .i64 n, .int .i64 by_] w fun e w' => e = .returned (.int .i64 (stepV n by_)) ∧ w = w' := by
  have HH := hold_mm (n := by_) (show (-8 : Int) ≤ 8 by omega)
  have h1 := hold_range (n := n) (show (0 : Int) ≤ 8 by omega)
  have h2 := hold_range (n := by_) (show (-8 : Int) ≤ 8 by omega)
  have H0 := Lib.hid (fun W => held_any n W)
  have H1 := Lib.hid (fun W => held_any (hold n 0 8 + hold by_ (-8) 8) W)
  have hw : IntKind.i64.wrap (hold n 0 8 + hold by_ (-8) 8) = hold n 0 8 + hold by_ (-8) 8 := by
    generalize hold n 0 8 = a at *; generalize hold by_ (-8) 8 = b at *
    rw [IntKind.wrap_i64]; omega
  unfold stepV
  generalize hold n 0 8 = a at *
  generalize hold by_ (-8) 8 = b at *
  go_enter Try.func37, Try.ntmps37
  go_wp2_with (first
    | (go_at_call 60; (with_reducible refine (H0.out _).mono ?_); rintro e w1 ⟨rfl, rfl⟩)
    | (go_at_call 60; (with_reducible refine (H1.out _).mono ?_); rintro e w2 ⟨rfl, rfl⟩))
  go_ret
  exact ⟨rfl, rfl⟩

/-- The whole number that a set has of a key. -/
def numN (xs : List Att) (key : Int) : Int := if ((getA xs key).getD noAtt).k = 2 then ((getA xs key).getD noAtt).n else 0
set_option maxRecDepth 100000 in
theorem number_any (v : Value) (xs : List Att) (key : Int) (w : World) (hv : Arow w v xs) (hl : xs.length ≤ 1000000) :
    Calls Try.prog 38 #[v, .int .i64 key] w fun e w' => ∃ n, (Rise xs → n = numN xs key) ∧ e = .returned (.int .i64 n) ∧ Below w.heap.size w w' := by
  have HG := Lib.hid (get_any5 v xs key w hv hl)
  clear hv
  go_enter Try.func38, Try.ntmps38
  go_wp2_with fail
  go_at_call 61
  refine HG.out.mono ?_
  rintro e w1 ⟨a, b, hab, rfl, hb1⟩
  obtain ⟨a1, a2, a3, a4, a5⟩ := a
  have HA := Lib.hid hab
  have HB := Lib.hid (hb1.alloc hb1.size (.cells #[.int .u8 a2, .int .i64 a3, .int .u64 a4, .string a5] 47))
  clear hab hb1
  by_cases q : a2 = 2
  · subst q
    go_wp2_with fail
    go_ret
    exact ⟨a3, fun hr => by unfold numN; rw [← (HA.out hr).1]; rfl, rfl, HB.out⟩
  · have e1 : (a2 == 2) = false := by simpa using q
    have HQ := Lib.hid q
    clear q
    go_wp2_with fail
    go_ret
    exact ⟨0, fun hr => by unfold numN; rw [← (HA.out hr).1]; rw [if_neg HQ.out], rfl, HB.out⟩

/-- The patch by which a key has a number. -/
@[reducible] def setC (key n : Int) : Chg := ⟨key, false, 2, n, 0, ⟨#[]⟩⟩
def stepP (ks : List Key) (key n : Int) : List Chg := if n = 0 then [goneC key] else compl ks [setC key n]
theorem one_nodup (ks : List Key) (c : Chg) : (setsG ks [c]).Nodup := by
  unfold setsG
  cases h : setG ks c <;> simp [h]
theorem stepP_gone (ks : List Key) (key : Int) : cE ks [goneC key] = 0 ∧ cL ks [goneC key] = stepP ks key 0 := by
  obtain ⟨h1, h2⟩ := cE_yes (one_nodup ks (goneC key))
  refine ⟨h1, ?_⟩
  rw [h2]
  have e : setsG ks [goneC key] = [] := by simp [setsG, setG]
  unfold stepP compl
  rw [if_pos rfl, e]
  have e2 : goneL ks [] = [] := by simp [goneL]
  rw [e2]
  exact nil_comp (by simp [RiseC])
theorem stepP_set (ks : List Key) (key n : Int) (h : n ≠ 0) : cE ks [setC key n] = 0 ∧ cL ks [setC key n] = stepP ks key n := by
  obtain ⟨h1, h2⟩ := cE_yes (one_nodup ks (setC key n))
  refine ⟨h1, ?_⟩
  rw [h2]
  unfold stepP
  rw [if_neg h]
theorem one_rise (c : Chg) : RiseC [c] := by simp [RiseC]
theorem stepP_rise (ks : List Key) (key n : Int) : RiseC (stepP ks key n) := by
  unfold stepP
  split
  · exact one_rise _
  · exact compl_rise (one_rise _)
theorem stepP_len {ks : List Key} (hg : Good ks) (key n : Int) : (stepP ks key n).length ≤ ks.length + 1 := by
  unfold stepP
  split
  · simp
  · exact compl_len hg _
def stepQ (ks : List Key) (xs : List Att) (key n : Int) : List Chg := if app xs (stepP ks key n) = xs then [] else stepP ks key n
/-- Which error, if any. -/
def sE (ks : List Key) (key : Int) : Int := match fnd ks key with
  | none => 4
  | some k => if k.kind ≠ 2 then 4 else if k.blk = false then 7 else 0
def sL (ks : List Key) (xs : List Att) (key n : Int) : List Chg := if sE ks key = 0 then stepQ ks xs key n else []
theorem setC_W {key n : Int} (h : (Lit.int .i64 key).wf = true) (h1 : 0 ≤ n) (h2 : n ≤ 8) : ∀ c ∈ [setC key n], ChgW c := by
  intro c hc
  simp only [List.mem_singleton] at hc
  subst hc
  exact ⟨h, by simp only; decide, WalkArith.wf_i64 (by simp only; omega), by simp only; decide, Nat.zero_le _⟩
theorem goneC_W {key : Int} (h : (Lit.int .i64 key).wf = true) : ∀ c ∈ [goneC key], ChgW c := by
  intro c hc
  simp only [List.mem_singleton] at hc
  subst hc
  exact ⟨h, by simp only; decide, by simp only; decide, by simp only; decide, Nat.zero_le _⟩
/-- The answer's tail: the patch, and whether it changes nothing. -/
def StepPost (ks : List Key) (xs : List Att) (key n : Int) (w : World) (e : Ending) (w' : World) : Prop :=
  ∃ u, e = .returned (.tuple #[u, .int .i64 0]) ∧ Own6 w w' u (stepQ ks xs key n) ∧ Below w.heap.size w w'

set_option maxRecDepth 100000 in
theorem step_none (v u : Value) (ks : List Key) (xs : List Att) (key by_ : Int) (w : World) (hs : Sch w v ks) (hwf : (Lit.int .i64 key).wf = true) (he : sE ks key = 4) :
    Calls Try.prog 16 #[v, u, .int .i64 key, .int .i64 by_] w fun e w' => e = .returned (.tuple #[.slice none 0 0, .int .i64 4]) ∧ Below w.heap.size w w' := by
  have HF := find_any v ks key w hs hwf
  unfold fndV at HF
  have hc : (fnd ks key).isSome = false ∨ (fnd ks key).isSome = true ∧ ¬ ((fnd ks key).getD noKey).kind = 2 := by
    unfold sE at he
    cases hf : fnd ks key with
    | none => exact .inl rfl
    | some k =>
      refine .inr ⟨rfl, ?_⟩
      rw [hf] at he
      simp only at he
      intro h
      simp only [Option.getD_some] at h
      rw [if_neg (by simpa using h)] at he
      split at he <;> cases he
  generalize (fnd ks key).isSome = bb at *
  generalize (fnd ks key).getD noKey = kk at *
  have HF := Lib.hid HF
  obtain ⟨k1, k2, k3, k4, k5, k6⟩ := kk
  clear hs he
  rcases hc with rfl | ⟨rfl, h3⟩
  · go_enter Try.func16, Try.ntmps16
    go_wp2_with (go_at_call 27; (refine HF.out.mono ?_); rintro e w1 ⟨rfl, hb1⟩; have HB := Lib.hid (hb1.alloc hb1.size (.cells #[.int .i64 k1, .bool k2, .int .u8 k3, .bool k4, .bool k5, .int .i64 k6] 59)); clear hb1)
    go_ret2
    exact ⟨rfl, HB.out⟩
  · simp only at h3
    have e3 : (k3 != 2) = true := by simpa using h3
    clear h3
    go_enter Try.func16, Try.ntmps16
    go_wp2_with (go_at_call 27; (refine HF.out.mono ?_); rintro e w1 ⟨rfl, hb1⟩; have HB := Lib.hid (hb1.alloc hb1.size (.cells #[.int .i64 k1, .bool k2, .int .u8 k3, .bool k4, .bool k5, .int .i64 k6] 59)); clear hb1)
    go_ret2
    exact ⟨rfl, HB.out⟩
theorem sE_seven {ks : List Key} {key : Int} (he : sE ks key = 7) : (fnd ks key).isSome = true ∧ ((fnd ks key).getD noKey).kind = 2 ∧ ((fnd ks key).getD noKey).blk = false := by
  unfold sE at he
  cases hf : fnd ks key with
  | none => rw [hf] at he; cases he
  | some k =>
    rw [hf] at he
    simp only at he
    refine ⟨rfl, ?_⟩
    simp only [Option.getD_some]
    by_cases h1 : k.kind = 2
    · rw [if_neg (by simpa using h1)] at he
      cases hb : k.blk with
      | false => exact ⟨h1, rfl⟩
      | true => rw [hb] at he; cases he
    · rw [if_pos h1] at he; cases he
theorem sE_zero {ks : List Key} {key : Int} : sE ks key = 0 ↔ (fnd ks key).isSome = true ∧ ((fnd ks key).getD noKey).kind = 2 ∧ ((fnd ks key).getD noKey).blk = true := by
  unfold sE
  cases hf : fnd ks key with
  | none => simp
  | some k =>
    simp only [Option.isSome_some, Option.getD_some, true_and]
    by_cases h1 : k.kind = 2
    · rw [if_neg (by simpa using h1)]
      cases hb : k.blk <;> simp [h1]
    · rw [if_pos h1]; simp [h1]
theorem sE_only (ks : List Key) (key : Int) : sE ks key = 0 ∨ sE ks key = 4 ∨ sE ks key = 7 := by
  unfold sE
  cases fnd ks key with
  | none => simp
  | some k =>
    simp only
    split
    · simp
    · split <;> simp
set_option maxRecDepth 100000 in
theorem step_scope (v u : Value) (ks : List Key) (xs : List Att) (key by_ : Int) (w : World) (hs : Sch w v ks) (hwf : (Lit.int .i64 key).wf = true) (he : sE ks key = 7) :
    Calls Try.prog 16 #[v, u, .int .i64 key, .int .i64 by_] w fun e w' => e = .returned (.tuple #[.slice none 0 0, .int .i64 7]) ∧ Below w.heap.size w w' := by
  have HF := find_any v ks key w hs hwf
  unfold fndV at HF
  obtain ⟨h1, h2, h3⟩ := sE_seven he
  generalize (fnd ks key).isSome = bb at *
  generalize (fnd ks key).getD noKey = kk at *
  obtain ⟨k1, k2, k3, k4, k5, k6⟩ := kk
  simp only at h2 h3
  subst h1 h2 h3
  have HF := Lib.hid HF
  clear hs he
  go_enter Try.func16, Try.ntmps16
  go_wp2_with (go_at_call 27; (refine HF.out.mono ?_); rintro e w1 ⟨rfl, hb1⟩; have HB := Lib.hid (hb1.alloc hb1.size (.cells #[.int .i64 k1, .bool false, .int .u8 2, .bool k4, .bool k5, .int .i64 k6] 59)); clear hb1)
  go_ret2
  exact ⟨rfl, HB.out⟩

set_option maxRecDepth 100000 in
set_option maxHeartbeats 2000000 in
theorem step_good (v u : Value) (ks : List Key) (xs : List Att) (key by_ : Int) (w : World) (hs : Sch w v ks) (hv : Arow w u xs) (hl : xs.length ≤ 1000000) (hwf : (Lit.int .i64 key).wf = true) (he : sE ks key = 0) :
    Calls Try.prog 16 #[v, u, .int .i64 key, .int .i64 by_] w fun e w' => ∃ n, (Rise xs → n = stepV (numN xs key) by_) ∧ 0 ≤ n ∧ n ≤ 8 ∧ StepPost ks xs key n w e w' := by
  have HF := find_any v ks key w hs hwf
  unfold fndV at HF
  obtain ⟨h1, h2, h3⟩ := sE_zero.1 he
  generalize (fnd ks key).isSome = bb at *
  generalize (fnd ks key).getD noKey = kk at *
  obtain ⟨k1, k2, k3, k4, k5, k6⟩ := kk
  simp only at h2 h3
  subst h1 h2 h3
  have HF := Lib.hid HF
  have HG := Lib.hid hs.1
  have h64 := hs.few
  have HS := Lib.hid hs
  have HV := Lib.hid hv
  have HN := Lib.hid (fun W (hb : Below w.heap.size w W) => number_any u xs key W (hv.below hb (Nat.le_refl _)) hl)
  have HC := Lib.hid (fun (c : Chg) (hcW : ∀ d ∈ [c], ChgW d) W (s : Sch W v ks) t => complete_any v _ ks [c] _ (s.below (kbelow_one W (.cells (cca c) t)) (Nat.le_refl _)) (crow_one W c t) hcW (by simp))
  have HA := Lib.hid (fun (n : Int) W u' (h : Arow W u xs) (h' : Crow W u' (stepP ks key n)) => apply_any u u' xs (stepP ks key n) W h h' (by have := stepP_len HG.out key n; omega))
  have HM := Lib.hid (fun (l : List Att) W u' (h : Arow W u' l) (h' : Arow W u xs) => same_any5 u' u l xs W h h')
  have hv2 := hv
  obtain ⟨ua, ucap, rfl⟩ := hv2.shape
  clear hs he hv hv2 hl
  go_enter Try.func16, Try.ntmps16
  go_wp2_with fail
  go_at_call 27
  refine HF.out.mono ?_
  rintro e w1 ⟨rfl, hb1⟩
  have HB1 := Lib.hid (hb1.alloc hb1.size (.cells #[.int .i64 k1, .bool true, .int .u8 2, .bool k4, .bool k5, .int .i64 k6] 59))
  clear hb1
  go_wp2_with fail
  go_at_call 38
  refine (HN.out _ HB1.out).mono ?_
  rintro e w2 ⟨m, hm, rfl, hb2⟩
  have HB2 := Lib.hid (below_add HB1.out hb2 HB1.out.size)
  have HM2 := Lib.hid hm
  clear hb2 hm
  go_wp2_with fail
  go_at_call 37
  refine (stepped_any _ _ _).mono ?_
  rintro e w3 ⟨rfl, rfl⟩
  have hr := stepV_range m by_
  have HE := Lib.hid (show Rise xs → stepV m by_ = stepV (numN xs key) by_ from fun h => by rw [HM2.out h])
  generalize stepV m by_ = n at *
  have HW := Lib.hid (setC_W hwf hr.1 hr.2)
  have HWg := Lib.hid (goneC_W hwf)
  go_wp2_with fail
  go_at_call 39
  refine (int_any _ _).mono ?_
  rintro e w4 ⟨rfl, hb4⟩
  have hB4 := below_add HB2.out hb4 HB2.out.size
  have HB4 := Lib.hid hB4
  clear hb4 hB4
  by_cases hn : n = 0
  · subst hn
    have hB5 := HB4.out.alloc HB4.out.size (.cells (cca (goneC key)) 49)
    have hC := HC.out (goneC key) HWg.out (w4.alloc (.cells (cca (goneC key)) 49)) (HS.out.below hB5 (Nat.le_refl _)) 49
    rw [(stepP_gone ks key).1, (stepP_gone ks key).2] at hC
    simp only [World.size_alloc] at hC
    have HC2 := Lib.hid hC
    have HB5 := Lib.hid (hB5.alloc hB5.size (.cells (cca (goneC key)) 49))
    have HV5 := Lib.hid (HV.out.below HB5.out (Nat.le_refl _))
    clear hB5 hC HC
    by_cases hq : app xs (stepP ks key 0) = xs
    · have eq : decide (app xs (stepP ks key 0) = xs) = true := decide_eq_true hq
      have HQ := Lib.hid (show stepQ ks xs key 0 = [] by unfold stepQ; rw [if_pos hq])
      clear hq
      go_wp2_with (first
        | (go_at_call 13; refine HC2.out.mono ?_; rintro e w6 ⟨u6, rfl, ho6, hb6⟩; have HB6 := Lib.hid (HB5.out.trans (hb6.mono (by have := HB5.out.size; simpa using this))); have HV6 := Lib.hid (HV5.out.below hb6 (by simp)); have HO6 := Lib.hid (owns_mono ho6 (show w.heap.size ≤ _ by have := HB5.out.size; simpa using this)); clear ho6 hb6)
        | (go_at_call 24; refine (HA.out _ _ _ HV6.out (Row.of_owns (C := chC) HO6.out).1).mono ?_; rintro e w7 ⟨u7, rfl, ho7, hb7⟩; have HB7 := Lib.hid (below_add HB6.out hb7 HB6.out.size); have HV7 := Lib.hid (HV6.out.below hb7 (Nat.le_refl _)); have HO7 := Lib.hid ho7.row; have HP7 := Lib.hid (owns_below HO6.out hb7); clear ho7 hb7)
        | (go_at_call 40; refine (HM.out _ _ _ HO7.out HV7.out).mono ?_; rw [eq]; rintro e w8 ⟨rfl, hb8⟩; have HB8 := Lib.hid (below_add HB7.out hb8 HB7.out.size); have HP8 := Lib.hid (owns_below HP7.out hb8); clear hb8))
      go_ret2
      exact ⟨0, HE.out, by omega, by omega, _, rfl, by rw [HQ.out]; exact own6_nil _ _, HB8.out⟩
    · have eq : decide (app xs (stepP ks key 0) = xs) = false := decide_eq_false hq
      have HQ := Lib.hid (show stepQ ks xs key 0 = stepP ks key 0 by unfold stepQ; rw [if_neg hq])
      clear hq
      go_wp2_with (first
        | (go_at_call 13; refine HC2.out.mono ?_; rintro e w6 ⟨u6, rfl, ho6, hb6⟩; have HB6 := Lib.hid (HB5.out.trans (hb6.mono (by have := HB5.out.size; simpa using this))); have HV6 := Lib.hid (HV5.out.below hb6 (by simp)); have HO6 := Lib.hid (owns_mono ho6 (show w.heap.size ≤ _ by have := HB5.out.size; simpa using this)); clear ho6 hb6)
        | (go_at_call 24; refine (HA.out _ _ _ HV6.out (Row.of_owns (C := chC) HO6.out).1).mono ?_; rintro e w7 ⟨u7, rfl, ho7, hb7⟩; have HB7 := Lib.hid (below_add HB6.out hb7 HB6.out.size); have HV7 := Lib.hid (HV6.out.below hb7 (Nat.le_refl _)); have HO7 := Lib.hid ho7.row; have HP7 := Lib.hid (owns_below HO6.out hb7); clear ho7 hb7)
        | (go_at_call 40; refine (HM.out _ _ _ HO7.out HV7.out).mono ?_; rw [eq]; rintro e w8 ⟨rfl, hb8⟩; have HB8 := Lib.hid (below_add HB7.out hb8 HB7.out.size); have HP8 := Lib.hid (owns_below HP7.out hb8); clear hb8))
      go_ret2
      exact ⟨0, HE.out, by omega, by omega, _, rfl, by rw [HQ.out]; exact HP8.out, HB8.out⟩
  · have en : (n == 0) = false := by simpa using hn
    have hB5 := HB4.out.alloc HB4.out.size (.cells (cca (setC key n)) 49)
    have hC := HC.out (setC key n) HW.out (w4.alloc (.cells (cca (setC key n)) 49)) (HS.out.below hB5 (Nat.le_refl _)) 49
    rw [(stepP_set ks key n hn).1, (stepP_set ks key n hn).2] at hC
    simp only [World.size_alloc] at hC
    have HC2 := Lib.hid hC
    have HB5 := Lib.hid (hB5.alloc hB5.size (.cells (cca (setC key n)) 49))
    have HV5 := Lib.hid (HV.out.below HB5.out (Nat.le_refl _))
    clear hB5 hC HC hn
    by_cases hq : app xs (stepP ks key n) = xs
    · have eq : decide (app xs (stepP ks key n) = xs) = true := decide_eq_true hq
      have HQ := Lib.hid (show stepQ ks xs key n = [] by unfold stepQ; rw [if_pos hq])
      clear hq
      go_wp2_with (first
        | (go_at_call 13; refine HC2.out.mono ?_; rintro e w6 ⟨u6, rfl, ho6, hb6⟩; have HB6 := Lib.hid (HB5.out.trans (hb6.mono (by have := HB5.out.size; simpa using this))); have HV6 := Lib.hid (HV5.out.below hb6 (by simp)); have HO6 := Lib.hid (owns_mono ho6 (show w.heap.size ≤ _ by have := HB5.out.size; simpa using this)); clear ho6 hb6)
        | (go_at_call 24; refine (HA.out _ _ _ HV6.out (Row.of_owns (C := chC) HO6.out).1).mono ?_; rintro e w7 ⟨u7, rfl, ho7, hb7⟩; have HB7 := Lib.hid (below_add HB6.out hb7 HB6.out.size); have HV7 := Lib.hid (HV6.out.below hb7 (Nat.le_refl _)); have HO7 := Lib.hid ho7.row; have HP7 := Lib.hid (owns_below HO6.out hb7); clear ho7 hb7)
        | (go_at_call 40; refine (HM.out _ _ _ HO7.out HV7.out).mono ?_; rw [eq]; rintro e w8 ⟨rfl, hb8⟩; have HB8 := Lib.hid (below_add HB7.out hb8 HB7.out.size); have HP8 := Lib.hid (owns_below HP7.out hb8); clear hb8))
      go_ret2
      exact ⟨n, HE.out, by omega, by omega, _, rfl, by rw [HQ.out]; exact own6_nil _ _, HB8.out⟩
    · have eq : decide (app xs (stepP ks key n) = xs) = false := decide_eq_false hq
      have HQ := Lib.hid (show stepQ ks xs key n = stepP ks key n by unfold stepQ; rw [if_neg hq])
      clear hq
      go_wp2_with (first
        | (go_at_call 13; refine HC2.out.mono ?_; rintro e w6 ⟨u6, rfl, ho6, hb6⟩; have HB6 := Lib.hid (HB5.out.trans (hb6.mono (by have := HB5.out.size; simpa using this))); have HV6 := Lib.hid (HV5.out.below hb6 (by simp)); have HO6 := Lib.hid (owns_mono ho6 (show w.heap.size ≤ _ by have := HB5.out.size; simpa using this)); clear ho6 hb6)
        | (go_at_call 24; refine (HA.out _ _ _ HV6.out (Row.of_owns (C := chC) HO6.out).1).mono ?_; rintro e w7 ⟨u7, rfl, ho7, hb7⟩; have HB7 := Lib.hid (below_add HB6.out hb7 HB6.out.size); have HV7 := Lib.hid (HV6.out.below hb7 (Nat.le_refl _)); have HO7 := Lib.hid ho7.row; have HP7 := Lib.hid (owns_below HO6.out hb7); clear ho7 hb7)
        | (go_at_call 40; refine (HM.out _ _ _ HO7.out HV7.out).mono ?_; rw [eq]; rintro e w8 ⟨rfl, hb8⟩; have HB8 := Lib.hid (below_add HB7.out hb8 HB7.out.size); have HP8 := Lib.hid (owns_below HP7.out hb8); clear hb8))
      go_ret2
      exact ⟨n, HE.out, by omega, by omega, _, rfl, by rw [HQ.out]; exact HP8.out, HB8.out⟩
/-- Step, whatever the key and the set. -/
theorem step_any (v u : Value) (ks : List Key) (xs : List Att) (key by_ : Int) (w : World) (hs : Sch w v ks) (hv : Arow w u xs) (hl : xs.length ≤ 1000000) (hwf : (Lit.int .i64 key).wf = true) :
    Calls Try.prog 16 #[v, u, .int .i64 key, .int .i64 by_] w fun e w' => ∃ n u', (Rise xs → n = stepV (numN xs key) by_) ∧ 0 ≤ n ∧ n ≤ 8 ∧ e = .returned (.tuple #[u', .int .i64 (sE ks key)]) ∧ Own6 w w' u' (sL ks xs key n) ∧ Below w.heap.size w w' := by
  have hr := stepV_range (numN xs key) by_
  unfold sL
  rcases sE_only ks key with h | h | h
  · refine (step_good v u ks xs key by_ w hs hv hl hwf h).mono fun e w' ⟨n, h1, h2, h3, u', h4, h5, h6⟩ => ⟨n, u', h1, h2, h3, by rw [h4, h], ?_, h6⟩
    rw [if_pos h]; exact h5
  · refine (step_none v u ks xs key by_ w hs hwf h).mono fun e w' ⟨h1, h2⟩ => ⟨stepV (numN xs key) by_, .slice none 0 0, fun _ => rfl, hr.1, hr.2, by rw [h1, h], ?_, h2⟩
    rw [if_neg (by rw [h]; decide)]; exact own6_nil _ _
  · refine (step_scope v u ks xs key by_ w hs hwf h).mono fun e w' ⟨h1, h2⟩ => ⟨stepV (numN xs key) by_, .slice none 0 0, fun _ => rfl, hr.1, hr.2, by rw [h1, h], ?_, h2⟩
    rw [if_neg (by rw [h]; decide)]; exact own6_nil _ _
end Go.Proofs.Ythcakinllcffoaa
