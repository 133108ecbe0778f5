
import Derived.Test.YthbehjilabedoaaA29
import Derived.Test.YthbehjilabedoaaA24
/- A30: AttrsSets: what ends early; sets that do not rise -/
namespace Go.Proofs.Ythbehjilabedoaa
open Go.RowKit
set_option linter.unusedVariables false

set_option maxRecDepth 100000 in
set_option maxHeartbeats 1000000 in
theorem sets_early (kb : Option Addr) (kcap : Nat) (ks : List Key) (u1 u2 : Value) (xs ys : List Att) (a : Att) (w : World) (hv : Krow w (.slice kb ks.length kcap) ks) (hK : ∀ k ∈ ks, KeyW k) (h1 : Arow w u1 xs) (h2 : Arow w u2 ys)
    (hn : ¬ (ks.length ≤ 64 ∧ ¬ great5 xs ∧ ¬ great5 ys ∧ a.s.size ≤ 200 ∧ mayKs ks)) :
    Calls Try.prog 3 #[.slice kb ks.length kcap, u1, u2, av a] w fun e w' => e = .returned (.bool true) ∧ Below w.heap.size w w' := by
  have HK := Lib.hid (fun w => known_any5 w)
  have hB0 := (Below.refl w.heap.size w).alloc (Nat.le_refl _) (.cells (aca a) 28)
  have hbx := ABox.box a w 28
  have hv0 := hv.below hB0 (Nat.le_refl _)
  have hlk := hv.len
  have rg1 := great_any u1 xs _ (h1.below hB0 (Nat.le_refl _))
  have rg2 := great_any u2 ys _ (h2.below hB0 (Nat.le_refl _))
  obtain ⟨g0, g1, g2, g3, g4⟩ := hbx
  clear hv h1 h2
  by_cases q0 : ks.length ≤ 64
  · have d1 : decide ((64 : Int) < (ks.length : Int)) = false := by rw [decide_eq_false_iff_not]; omega
    by_cases q1 : great5 xs
    · rw [decide_eq_true q1] at rg1
      have HG1 := Lib.hid rg1
      clear rg1 rg2 hn q0 q1 hv0
      go_enter Try.func3, Try.ntmps3
      go_wp2_with (first
        | (go_at_call 8; with_reducible (refine HG1.out.mono ?_); rintro e w8 ⟨rfl, rfl⟩)
        | (go_at_call 9; refine (HK.out _).mono ?_; rintro e w9 ⟨rfl, hb9⟩))
      go_ret
      exact ⟨rfl, below_add hB0 hb9 hB0.size⟩
    rw [decide_eq_false q1] at rg1
    have HG1 := Lib.hid rg1
    by_cases q2 : great5 ys
    · rw [decide_eq_true q2] at rg2
      have HG2 := Lib.hid rg2
      clear rg1 rg2 hn q0 q1 q2 hv0
      go_enter Try.func3, Try.ntmps3
      go_wp2_with (first
        | (go_at_call 8; with_reducible (refine HG1.out.mono ?_); rintro e w8 ⟨rfl, rfl⟩; clear HG1)
        | (go_at_call 8; with_reducible (refine HG2.out.mono ?_); rintro e w8 ⟨rfl, rfl⟩)
        | (go_at_call 9; refine (HK.out _).mono ?_; rintro e w9 ⟨rfl, hb9⟩))
      go_ret
      exact ⟨rfl, below_add hB0 hb9 hB0.size⟩
    rw [decide_eq_false q2] at rg2
    have HG2 := Lib.hid rg2
    by_cases q3 : a.s.size ≤ 200
    · have d2 : decide ((200 : Int) < (a.s.size : Int)) = false := by rw [decide_eq_false_iff_not]; omega
      have q4 : ¬ mayKs ks := fun h => hn ⟨q0, q1, q2, q3, h⟩
      have HN := Lib.hid (new_no hv0 hK q4)
      have HM := Lib.hid (fun w (hv : Krow w (.slice kb ks.length kcap) ks) => (rmay_keys _ ks w hv).mono fun e w' (h : MayPost ks w e w') => (by obtain ⟨hb, b, he, hbb⟩ := h; have : b = false := (by cases b with | false => rfl | true => exact absurd (hbb.1 rfl) q4); subst this; exact ⟨he, hb⟩ : e = .returned (.bool false) ∧ Below w.heap.size w w'))
      have HV := Lib.hid hv0
      clear rg1 rg2 hn q0 q1 q2 q3 q4 hv0
      go_enter Try.func3, Try.ntmps3
      go_wp2_with (first
        | (go_at_call 8; with_reducible (refine HG1.out.mono ?_); rintro e w8 ⟨rfl, rfl⟩; clear HG1)
        | (go_at_call 8; with_reducible (refine HG2.out.mono ?_); rintro e w8 ⟨rfl, rfl⟩)
        | (go_at_call 10; with_reducible (refine HN.out.mono ?_); rintro e w1 ⟨rfl, hb1⟩; have hE1 := below_add hB0 hb1 hB0.size; have HV1 := Lib.hid (HV.out.below hb1 (Nat.le_refl _)))
        | (go_at_call 11; with_reducible (refine (HM.out _ HV1.out).mono ?_); rintro e w2 ⟨rfl, hb2⟩; have hE2 := below_add hE1 hb2 hE1.size)
        | (go_at_call 9; refine (HK.out _).mono ?_; rintro e w9 ⟨rfl, hb9⟩))
      go_ret
      exact ⟨rfl, below_add hE2 hb9 hE2.size⟩
    · have d2 : decide ((200 : Int) < (a.s.size : Int)) = true := by rw [decide_eq_true_iff]; omega
      clear rg1 rg2 hn q0 q1 q2 q3 hv0
      go_enter Try.func3, Try.ntmps3
      go_wp2_with (first
        | (go_at_call 8; with_reducible (refine HG1.out.mono ?_); rintro e w8 ⟨rfl, rfl⟩; clear HG1)
        | (go_at_call 8; with_reducible (refine HG2.out.mono ?_); rintro e w8 ⟨rfl, rfl⟩)
        | (go_at_call 9; refine (HK.out _).mono ?_; rintro e w9 ⟨rfl, hb9⟩))
      go_ret
      exact ⟨rfl, below_add hB0 hb9 hB0.size⟩
  · have d1 : decide ((64 : Int) < (ks.length : Int)) = true := by rw [decide_eq_true_iff]; omega
    clear rg1 rg2 hn q0 hv0
    go_enter Try.func3, Try.ntmps3
    go_wp2_with (go_at_call 9; refine (HK.out _).mono ?_; rintro e w9 ⟨rfl, hb9⟩)
    go_ret
    exact ⟨rfl, below_add hB0 hb9 hB0.size⟩

set_option maxRecDepth 100000 in
set_option maxHeartbeats 1000000 in
theorem sets_free (kb : Option Addr) (kcap : Nat) (ks : List Key) (xb : Option Addr) (xcap : Nat) (u2 : Value) (xs ys : List Att) (a : Att) (w : World) (hv : Krow w (.slice kb ks.length kcap) ks) (hK : ∀ k ∈ ks, KeyW k) (h1 : Arow w (.slice xb xs.length xcap) xs) (h2 : Arow w u2 ys) (hX : ∀ b ∈ xs, AttW b) (ha : AttW a)
    (hg1 : ¬ great5 xs) (hg2 : ¬ great5 ys) (hsz : a.s.size ≤ 200) (hm : mayKs ks) (hr : ¬ Rise xs) :
    Calls Try.prog 3 #[.slice kb ks.length kcap, .slice xb xs.length xcap, u2, av a] w fun e w' => e = .returned (.bool true) ∧ Below w.heap.size w w' := by
  have HGF := Lib.hid (fun w hu => get_any5 (.slice xb xs.length xcap) xs a.key w hu (by have := (not_great hg1).1; omega))
  have HWF := Lib.hid (fun v w hv => with_any v xs a w hv (by have := (not_great hg1).1; omega))
  have HOF := Lib.hid (fun v w hv => without_any v xs a.key w hv (by have := (not_great hg1).1; omega))
  have HPF := Lib.hid (fun s w hs hu => part_any (.pointer (some s)) ks (.slice xb xs.length xcap) xs true w hs hu hX (by have := (not_great hg1).1; omega))
  have HK := Lib.hid (fun w => known_any5 w)
  have hB0 := (Below.refl w.heap.size w).alloc (Nat.le_refl _) (.cells (aca a) 28)
  have hbx := ABox.box a w 28
  have hv0 := hv.below hB0 (Nat.le_refl _)
  have hx0 := h1.below hB0 (Nat.le_refl _)
  have hy0 := h2.below hB0 (Nat.le_refl _)
  have hlk := hv.len
  have rg1 := great_any (.slice xb xs.length xcap) xs _ hx0
  have rg2 := great_any u2 ys _ hy0
  rw [decide_eq_false hg1] at rg1
  rw [decide_eq_false hg2] at rg2
  have HG1 := Lib.hid rg1
  have HG2 := Lib.hid rg2
  obtain ⟨hx100, hxs⟩ := not_great hg1
  have d1 : decide ((64 : Int) < (ks.length : Int)) = false := by rw [decide_eq_false_iff_not]; have := hm.1; omega
  have d2 : decide ((200 : Int) < (a.s.size : Int)) = false := by rw [decide_eq_false_iff_not]; omega
  have HN := Lib.hid (new_yes hv0 hK hm)
  obtain ⟨m, hmm⟩ : ∃ m, may5 ks xs = m := ⟨_, rfl⟩
  have HMA := Lib.hid (fun s w hs hu => may_eq5 (.pointer (some s)) ks (.slice xb xs.length xcap) xs m hmm w hs hu hX)
  have HRM := Lib.hid (fun w hk hu => by have := rmay_any5 (.slice kb ks.length kcap) ks (.slice xb xs.length xcap) xs w hk hu hX (fun b hb => by have := hxs b hb; omega); rw [hmm] at this; exact this)
  obtain ⟨sm, hsm⟩ : ∃ s, decide (xs = ys) = s := ⟨_, rfl⟩
  have HSA := Lib.hid (fun w h1 h2 => by have := same_any5 (.slice xb xs.length xcap) u2 xs ys w h1 h2; rw [hsm] at this; exact this)
  have HRS := Lib.hid (fun w h1 h2 => by have := rsame_any5 (.slice xb xs.length xcap) u2 xs ys w h1 h2; rw [hsm] at this; exact this)
  have HCP := Lib.hid (fun w hv => copy_both (.slice xb xs.length xcap) xs (by omega) w hv)
  have HSS := Lib.hid (fun v w hv hu => same_yes v (.slice xb xs.length xcap) xs w hv hu)
  have HRI := Lib.hid (fun w hu => by have := rising_any5 (.slice xb xs.length xcap) xs w hu; rw [decide_eq_false hr] at this; exact this)
  have HX0 := Lib.hid hx0
  have HY0 := Lib.hid hy0
  have HV0 := Lib.hid hv0
  have HBX := Lib.hid hbx
  have HWX := Lib.hid hX
  have HWA := Lib.hid ha
  have HM := Lib.hid hm
  have HR := Lib.hid hr
  clear hv h1 h2 hv0 hx0 hy0 rg1 rg2 hg1 hg2 hmm hsm hX ha hK hm hr hbx hxs hsz
  obtain ⟨g0, g1, g2, g3, g4⟩ := HBX.out
  go_enter Try.func3, Try.ntmps3
  go_wp2_with (first
    | (go_at_call 8; with_reducible (refine HG1.out.mono ?_); rintro e w8 ⟨rfl, rfl⟩; clear HG1)
    | (go_at_call 8; with_reducible (refine HG2.out.mono ?_); rintro e w8 ⟨rfl, rfl⟩)
    | (go_at_call 10; with_reducible (refine HN.out.mono ?_); rintro e w1 ⟨s, rfl, hs1, hb1⟩; have HS1 := Lib.hid hs1; have HX1 := Lib.hid (HX0.out.below hb1 (Nat.le_refl _)); have HE1 := Lib.hid (below_add hB0 hb1 hB0.size); clear hs1)
    | (go_at_call 12; with_reducible (refine (HMA.out s _ HS1.out HX1.out).mono ?_); rintro e w2 ⟨rfl, hb2⟩; have hb12 := below_add hb1 hb2 hb1.size; have HX2 := Lib.hid (HX0.out.below hb12 (Nat.le_refl _)); have HV2 := Lib.hid (HV0.out.below hb12 (Nat.le_refl _)))
    | (go_at_call 13; with_reducible (refine (HRM.out _ HV2.out HX2.out).mono ?_); rintro e w3 ⟨rfl, hb3⟩; have hb13 := below_add hb12 hb3 hb12.size; have HX3 := Lib.hid (HX0.out.below hb13 (Nat.le_refl _)); have HY3 := Lib.hid (HY0.out.below hb13 (Nat.le_refl _)))
    | (go_at_call 14; with_reducible (refine (HSA.out _ HX3.out HY3.out).mono ?_); rintro e w4 ⟨rfl, hb4⟩; have hb14 := below_add hb13 hb4 hb13.size; have HX4 := Lib.hid (HX0.out.below hb14 (Nat.le_refl _)); have HY4 := Lib.hid (HY0.out.below hb14 (Nat.le_refl _)); clear HX3 HY3)
    | (go_at_call 15; with_reducible (refine (HRS.out _ HX4.out HY4.out).mono ?_); rintro e w5 ⟨rfl, q5, rfl⟩; have hb15 := blw_drewN hb14 q5; have HX5 := Lib.hid (HX0.out.below hb15 (Nat.le_refl _)))
    | (go_at_call 16; with_reducible (refine (HCP.out _ HX5.out).mono ?_); rintro e w6 ⟨u6, rfl, H6, hb6⟩; have hb16 := below_add hb15 hb6 hb15.size; have HX6 := Lib.hid (HX0.out.below hb16 (Nat.le_refl _)))
    | (go_at_call 14; with_reducible (refine (HSS.out u6 _ H6.out HX6.out).mono ?_); rintro e w7 ⟨rfl, hb7⟩; have hb17 := below_add hb16 hb7 hb16.size; have HX7 := Lib.hid (HX0.out.below hb17 (Nat.le_refl _)))
    | (go_at_call 17; with_reducible (refine (HRI.out _ HX7.out).mono ?_); rintro e w8 ⟨rfl, q8, rfl⟩; have hb18 := blw_drewN hb17 q8; obtain ⟨p0, p1, p2, p3, p4⟩ := HBX.out.below hb18 (by simp); have HBX8 := Lib.hid (HBX.out.below hb18 (by simp)); have HX8 := Lib.hid (HX0.out.below hb18 (Nat.le_refl _)); have HV8 := Lib.hid (HV0.out.below hb18 (Nat.le_refl _)); have HE8 := Lib.hid (below_add hB0 hb18 hB0.size); have HS8 := Lib.hid (((((((HS1.out.below hb2 (Nat.le_refl _)).below hb3 (Nat.le_refl _)).below hb4 (Nat.le_refl _)).below (Below.drewN' (Below.refl _ _) q5) (Nat.le_refl _)).below hb6 (Nat.le_refl _)).below hb7 (Nat.le_refl _)).below (Below.drewN' (Below.refl _ _) q8) (Nat.le_refl _)))
    | (go_at_call 18; with_reducible (refine (HGF.out _ HX8.out).mono ?_); rintro e w9 ⟨a9, b9, -, rfl, hb9⟩))
  have hxd := (HBX8.out.below hb9 HBX8.out.lt).below (Below.refl _ _).drew (HBX8.out.below hb9 HBX8.out.lt).lt
  have HXD := Lib.hid hxd
  have HX9 := Lib.hid ((HX8.out.below hb9 (Nat.le_refl _)).below (Below.refl _ _).drew (Nat.le_refl _))
  have HD9 := Lib.hid hb9.drew
  clear HX1 HX2 HX4 HX5 HX6 HX7 HY4 H6 HV2 hb12 hb13 hb14 hb15 hb16 hb17 hb18 hb2 hb3 hb4 hb6 hb7 hb9 p0 p1 p2 p3 p4 g0 g1 g2 g3 g4
  go_region_held3 (fun w' => ABox w.heap.size a w') (first | assumption | trivial)
    (first
      | (go_at_call 16; with_reducible (refine (HCP.out _ HX9.out).mono ?_); rintro e w10 ⟨u10, rfl, H10, hb10⟩; have hx10 := HXD.out.below hb10 HXD.out.lt)
      | (go_at_call 19; with_reducible (refine (HWF.out u10 _ H10.out).mono ?_); rintro e w11 ⟨u11, l11, rfl, -, -, -, hb11⟩; have hx11 := hx10.below hb11 hx10.lt))
  have hd11 := below_add (below_add HD9.out hb10 HD9.out.size) hb11 (below_add HD9.out hb10 HD9.out.size).size
  have hx12 := hx11.below (Below.refl _ _).drew hx11.lt
  have HX12 := Lib.hid hx12
  have HX11 := Lib.hid (HX8.out.below hd11.drew (Nat.le_refl _))
  have HD12 := Lib.hid hd11.drew
  clear hb10 hb11 hx10 hx11 hxd HXD HX9 HD9 H10 hd11
  go_wp2_with fail
  go_region_held3 (fun w' => ABox w.heap.size a w') (first | assumption | trivial)
    (first
      | (go_at_call 16; with_reducible (refine (HCP.out _ HX11.out).mono ?_); rintro e w13 ⟨u13, rfl, H13, hb13⟩; have hx13 := HX12.out.below hb13 HX12.out.lt)
      | (go_at_call 20; with_reducible (refine (HOF.out u13 _ H13.out).mono ?_); rintro e w14 ⟨u14, l14, rfl, -, -, -, hb14⟩; have hx14 := hx13.below hb14 hx13.lt))
  have hd14 := below_add (below_add HD12.out hb13 HD12.out.size) hb14 (below_add HD12.out hb13 HD12.out.size).size
  have HX14 := Lib.hid (HX8.out.below hd14 (Nat.le_refl _))
  have HS14 := Lib.hid (HS8.out.below hd14 (Nat.le_refl _))
  have HE14 := Lib.hid (below_add HE8.out hd14 HE8.out.size)
  clear hb13 hb14 hx13 hx14 hd14 H13 hx12
  go_wp2_with (first
    | (go_at_call 21; with_reducible (refine (HPF.out s _ HS14.out HX14.out).mono ?_); rintro e w15 ⟨u15, rfl, -, hb15⟩)
    | (go_at_call 9; refine (HK.out _).mono ?_; rintro e w16 ⟨rfl, hb16⟩))
  go_ret
  have hz := below_add HE14.out hb15 HE14.out.size
  exact ⟨rfl, below_add hz hb16 hz.size⟩
end Go.Proofs.Ythbehjilabedoaa
