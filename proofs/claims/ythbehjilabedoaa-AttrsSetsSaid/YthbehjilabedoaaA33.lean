
import Derived.Test.YthbehjilabedoaaA32
import Derived.Test.YthbehjilabedoaaA11
/- A33: AttrsSets: sets that rise -/
namespace Go.Proofs.Ythbehjilabedoaa
open Go.RowKit
set_option linter.unusedVariables false

set_option maxRecDepth 100000 in
set_option maxHeartbeats 2000000 in
theorem sets_main (kb : Option Addr) (kcap : Nat) (ks : List Key) (xb : Option Addr) (xcap : Nat) (u2 : Value) (xs ys : List Att) (a : Att) (w : World) (hv : Krow w (.slice kb ks.length kcap) ks) (hK : ∀ k ∈ ks, KeyW k) (h1 : Arow w (.slice xb xs.length xcap) xs) (h2 : Arow w u2 ys) (hX : ∀ b ∈ xs, AttW b) (ha : AttW a)
    (hg1 : ¬ great5 xs) (hg2 : ¬ great5 ys) (hsz : a.s.size ≤ 200) (hm : mayKs ks) (hr : Rise xs) :
    Calls Try.prog 3 #[.slice kb ks.length kcap, .slice xb xs.length xcap, u2, av a] w fun e w' => e = .returned (.bool true) ∧ Below w.heap.size w w' := by
  obtain ⟨i0, hi, hz0, hz1, hz2⟩ := info_att5
  have hl100 := (not_great hg1).1
  obtain ⟨p, b, hp⟩ := getV_any xs a.key
  have HGI := Lib.hid (fun v w hv => by have := get_rise v xs a.key hr w hv (by omega); rw [hp] at this; exact this)
  have HGR := Lib.hid (fun w hv => by have := rget_any5 (.slice xb xs.length xcap) xs a.key w hv; rw [hp] at this; exact this)
  have HWI := Lib.hid (fun v w hv => with_rise v xs a hr w hv (by omega))
  have HOI := Lib.hid (fun v w hv => without_rise v xs a.key hr w hv (by omega))
  have HPI := Lib.hid (fun s bl v w hs hv => part_any (.pointer (some s)) ks v xs bl w hs hv hX (by omega))
  have HCI := Lib.hid (fun v w hv => copy_any5 v xs w hv (by omega))
  have HRW := Lib.hid (fun w hv => by have := rwith_any5 (.slice xb xs.length xcap) xs a w hv (by omega); rw [wdone_eq a hr] at this; exact this)
  have HRO := Lib.hid (fun w hv => by have := rwithout_any5 (.slice xb xs.length xcap) xs a.key w hv (by omega); rw [wout_eq a.key hr] at this; exact this)
  have HRP := Lib.hid (fun bl w hk hv => rpart_any (.slice kb ks.length kcap) ks (.slice xb xs.length xcap) xs bl w hk hv (by omega))
  have HSY := Lib.hid (fun v w h1 h2 => rsame_yes v (.slice xb xs.length xcap) xs w h1 h2)
  have HK := Lib.hid (fun w => known_any5 w)
  have hB0 := (Below.refl w.heap.size w).alloc (Nat.le_refl _) (.cells (aca a) 28)
  have hbx := ABox.box a w 28
  have hv0 := hv.below hB0 (Nat.le_refl _)
  have hx0 := h1.below hB0 (Nat.le_refl _)
  have hy0 := h2.below hB0 (Nat.le_refl _)
  have hlk := hv.len
  have rg1 := great_any (.slice xb xs.length xcap) xs _ hx0
  have rg2 := great_any u2 ys _ hy0
  rw [decide_eq_false hg1] at rg1
  rw [decide_eq_false hg2] at rg2
  have HG1 := Lib.hid rg1
  have HG2 := Lib.hid rg2
  obtain ⟨hx100, hxs⟩ := not_great hg1
  have d1 : decide ((64 : Int) < (ks.length : Int)) = false := by rw [decide_eq_false_iff_not]; have := hm.1; omega
  have d2 : decide ((200 : Int) < (a.s.size : Int)) = false := by rw [decide_eq_false_iff_not]; omega
  have HN := Lib.hid (new_yes hv0 hK hm)
  obtain ⟨m, hmm⟩ : ∃ m, may5 ks xs = m := ⟨_, rfl⟩
  have HMA := Lib.hid (fun s w hs hu => may_eq5 (.pointer (some s)) ks (.slice xb xs.length xcap) xs m hmm w hs hu hX)
  have HRM := Lib.hid (fun w hk hu => by have := rmay_any5 (.slice kb ks.length kcap) ks (.slice xb xs.length xcap) xs w hk hu hX (fun b hb => by have := hxs b hb; omega); rw [hmm] at this; exact this)
  obtain ⟨sm, hsm⟩ : ∃ s, decide (xs = ys) = s := ⟨_, rfl⟩
  have HSA := Lib.hid (fun w h1 h2 => by have := same_any5 (.slice xb xs.length xcap) u2 xs ys w h1 h2; rw [hsm] at this; exact this)
  have HRS := Lib.hid (fun w h1 h2 => by have := rsame_any5 (.slice xb xs.length xcap) u2 xs ys w h1 h2; rw [hsm] at this; exact this)
  have HCP := Lib.hid (fun w hv => copy_both (.slice xb xs.length xcap) xs (by omega) w hv)
  have HSS := Lib.hid (fun v w hv hu => same_yes v (.slice xb xs.length xcap) xs w hv hu)
  have HRI := Lib.hid (fun w hu => by have := rising_any5 (.slice xb xs.length xcap) xs w hu; rw [decide_eq_true hr] at this; exact this)
  have HX0 := Lib.hid hx0
  have HY0 := Lib.hid hy0
  have HV0 := Lib.hid hv0
  have HBX := Lib.hid hbx
  have HWX := Lib.hid hX
  have HWA := Lib.hid ha
  have HM := Lib.hid hm
  have HR := Lib.hid hr
  clear hv h1 h2 hv0 hx0 hy0 rg1 rg2 hg1 hg2 hmm hsm hX ha hK hm hr hbx hxs hsz
  obtain ⟨g0, g1, g2, g3, g4⟩ := HBX.out
  go_enter Try.func3, Try.ntmps3
  go_wp2_with (first
    | (go_at_call 8; with_reducible (refine HG1.out.mono ?_); rintro e w8 ⟨rfl, rfl⟩; clear HG1)
    | (go_at_call 8; with_reducible (refine HG2.out.mono ?_); rintro e w8 ⟨rfl, rfl⟩)
    | (go_at_call 10; with_reducible (refine HN.out.mono ?_); rintro e w1 ⟨s, rfl, hs1, hb1⟩; have HS1 := Lib.hid hs1; have HX1 := Lib.hid (HX0.out.below hb1 (Nat.le_refl _)); have HE1 := Lib.hid (below_add hB0 hb1 hB0.size); clear hs1)
    | (go_at_call 12; with_reducible (refine (HMA.out s _ HS1.out HX1.out).mono ?_); rintro e w2 ⟨rfl, hb2⟩; have hb12 := below_add hb1 hb2 hb1.size; have HX2 := Lib.hid (HX0.out.below hb12 (Nat.le_refl _)); have HV2 := Lib.hid (HV0.out.below hb12 (Nat.le_refl _)))
    | (go_at_call 13; with_reducible (refine (HRM.out _ HV2.out HX2.out).mono ?_); rintro e w3 ⟨rfl, hb3⟩; have hb13 := below_add hb12 hb3 hb12.size; have HX3 := Lib.hid (HX0.out.below hb13 (Nat.le_refl _)); have HY3 := Lib.hid (HY0.out.below hb13 (Nat.le_refl _)))
    | (go_at_call 14; with_reducible (refine (HSA.out _ HX3.out HY3.out).mono ?_); rintro e w4 ⟨rfl, hb4⟩; have hb14 := below_add hb13 hb4 hb13.size; have HX4 := Lib.hid (HX0.out.below hb14 (Nat.le_refl _)); have HY4 := Lib.hid (HY0.out.below hb14 (Nat.le_refl _)); clear HX3 HY3)
    | (go_at_call 15; with_reducible (refine (HRS.out _ HX4.out HY4.out).mono ?_); rintro e w5 ⟨rfl, q5, rfl⟩; have hb15 := blw_drewN hb14 q5; have HX5 := Lib.hid (HX0.out.below hb15 (Nat.le_refl _)))
    | (go_at_call 16; with_reducible (refine (HCP.out _ HX5.out).mono ?_); rintro e w6 ⟨u6, rfl, H6, hb6⟩; have hb16 := below_add hb15 hb6 hb15.size; have HX6 := Lib.hid (HX0.out.below hb16 (Nat.le_refl _)))
    | (go_at_call 14; with_reducible (refine (HSS.out u6 _ H6.out HX6.out).mono ?_); rintro e w7 ⟨rfl, hb7⟩; have hb17 := below_add hb16 hb7 hb16.size; have HX7 := Lib.hid (HX0.out.below hb17 (Nat.le_refl _)))
    | (go_at_call 17; with_reducible (refine (HRI.out _ HX7.out).mono ?_); rintro e w8 ⟨rfl, q8, rfl⟩; have hb18 := blw_drewN hb17 q8; obtain ⟨p0, p1, p2, p3, p4⟩ := HBX.out.below hb18 (by simp); have HBX8 := Lib.hid (HBX.out.below hb18 (by simp)); have HX8 := Lib.hid (HX0.out.below hb18 (Nat.le_refl _)); have HV8 := Lib.hid (HV0.out.below hb18 (Nat.le_refl _)); have HE8 := Lib.hid (below_add hB0 hb18 hB0.size); have HS8 := Lib.hid (((((((HS1.out.below hb2 (Nat.le_refl _)).below hb3 (Nat.le_refl _)).below hb4 (Nat.le_refl _)).below (Below.drewN' (Below.refl _ _) q5) (Nat.le_refl _)).below hb6 (Nat.le_refl _)).below hb7 (Nat.le_refl _)).below (Below.drewN' (Below.refl _ _) q8) (Nat.le_refl _)))
    | (at_builtin; refine wpList_append_row (C := attC) rfl (.tmp 95) (.tmp 96) 23 rfl (w7.drewN q8).heap.size 28 i0 (av noAtt) 48 Try.underlying23 hi hz0 hz1 hz2 rfl _ 0 [] rfl (owns_none (w7.drewN q8) 28 5) _ xs rfl (HX8.out.below ((Below.refl (w7.drewN q8).heap.size (w7.drewN q8)).alloc (Nat.le_refl _) (.cells #[] 28)) (Nat.le_refl _)) (by unfold maxLen; omega) (by omega) (by simp) ?_; intro v3 w9 hown3 hgrow3; have HN9 := Lib.hid (by have h : w9.ownsRow (w7.drewN q8).heap.size 28 attC.m v3 (0 + xs.length) ([] ++ fl attC xs) := hown3; rw [Nat.zero_add, List.nil_append] at h; exact (Row.of_owns h).1 : Arow w9 v3 xs); have hb9 := ((Below.refl (w7.drewN q8).heap.size (w7.drewN q8)).alloc (Nat.le_refl _) (.cells #[] 28)).grown hgrow3 (by simp) (fun j hj => own_base (owns_none (w7.drewN q8) 28 5) hj); obtain ⟨p0, p1, p2, p3, p4⟩ := HBX8.out.below hb9 HBX8.out.lt)
    | (go_at_call 18; with_reducible (refine (HGI.out v3 _ HN9.out).mono ?_); rintro e w10 ⟨rfl, hb10⟩; have hb10a := hb10.alloc hb10.size (.cells (vcells p.k p.n p.f p.s) 26); have hb810 := below_add hb9 hb10a hb9.size; obtain ⟨p0, p1, p2, p3, p4⟩ := HBX8.out.below hb810 HBX8.out.lt; have HX10 := Lib.hid (HX8.out.below hb810 (Nat.le_refl _)); have HA10 := Lib.hid (At.box p.k p.n p.f p.s w10 26))
    | (go_at_call 22; with_reducible (refine (HGR.out _ HX10.out).mono ?_); rintro e w11 ⟨rfl, hb11⟩))
  have hb11a := hb11.alloc hb11.size (.cells (vcells p.k p.n p.f p.s) 26)
  have HN10 := Lib.hid ((HN9.out.below hb10a (Nat.le_refl _)).below hb11a (Nat.le_refl _))
  have hb811 := below_add hb810 hb11a hb810.size
  have HA1 := Lib.hid (HA10.out.below hb11a)
  have HA2 := Lib.hid (At.box p.k p.n p.f p.s w11 26)
  have HBX11 := Lib.hid (HBX8.out.below hb811 HBX8.out.lt)
  have HX11 := Lib.hid (HX8.out.below hb811 (Nat.le_refl _))
  have HV11 := Lib.hid (HV8.out.below hb811 (Nat.le_refl _))
  have HS11 := Lib.hid (HS8.out.below hb811 (Nat.le_refl _))
  have HE11 := Lib.hid (below_add HE8.out hb811 HE8.out.size)
  clear HX1 HX2 HX4 HX5 HX6 HX7 HY4 H6 HV2 hb12 hb13 hb14 hb15 hb16 hb17 hb18 hb2 hb3 hb4 hb6 hb7 p0 p1 p2 p3 p4 g0 g1 g2 g3 g4 hb9 hb10 hb10a hb11 hb11a hb810 hb811 hown3 hgrow3 HX10 HA10 HBX8 HX8 HV8 HS8 HE8 HN9
  clear HMA HRM HSA HRS HCP HSS HRI HS1 HE1 HX0 HY0 HV0 HBX hB0 hb1 hlk
  generalize hW : w11.alloc (.cells (vcells p.k p.n p.f p.s) 26) = W at *
  have hdr := (Below.refl W.heap.size W).drew
  have HXD := Lib.hid (HBX11.out.below hdr HBX11.out.lt)
  have HN17 := Lib.hid (HN10.out.below hdr (Nat.le_refl _))
  have HS17 := Lib.hid (HS11.out.below hdr (Nat.le_refl _))
  have HX17 := Lib.hid (HX11.out.below hdr (Nat.le_refl _))
  have HV17 := Lib.hid (HV11.out.below hdr (Nat.le_refl _))
  have HA17 := Lib.hid (HA1.out.below hdr)
  have HA27 := Lib.hid (HA2.out.below hdr)
  have HE17 := Lib.hid (below_add HE11.out hdr HE11.out.size)
  have hxd := HXD.out
  clear HN10 HS11 HX11 HV11 HA1 HA2 HBX11 HE11 hdr
  go_region_held3 (fun w' => ABox w.heap.size a w') (first | assumption | trivial | exact hx16.below ((Below.refl _ _).alloc (Nat.le_refl _) _) hx16.lt)
    (first
      | (go_at_call 19; with_reducible (refine (HWI.out v3 _ HN17.out).mono ?_); rintro e w12 ⟨u12, rfl, H12, hb12⟩; obtain ⟨x12, c12, rfl⟩ := H12.row.shape; have hx12 := HXD.out.below hb12 HXD.out.lt; have HN12 := Lib.hid (HN17.out.below hb12 (Nat.le_refl _)))
      | (go_at_call 20; with_reducible (refine (HOI.out v3 _ HN12.out).mono ?_); rintro e w13 ⟨u13, rfl, H13, hb13⟩; obtain ⟨x13, c13, rfl⟩ := H13.row.shape; have hx13 := hx12.below hb13 hx12.lt; have hb13a := below_add hb12 hb13 hb12.size; have HN13 := Lib.hid (HN17.out.below hb13a (Nat.le_refl _)); have HS13 := Lib.hid (HS17.out.below hb13a (Nat.le_refl _)))
      | (go_at_call 21; with_reducible (refine (HPI.out s true v3 _ HS13.out HN13.out).mono ?_); rintro e w14 ⟨u14, rfl, H14, hb14⟩; obtain ⟨x14, c14, rfl⟩ := H14.row.shape; have hx14 := hx13.below hb14 hx13.lt; have hb14a := below_add hb13a hb14 hb13a.size; have HN14 := Lib.hid (HN17.out.below hb14a (Nat.le_refl _)); have HS14 := Lib.hid (HS17.out.below hb14a (Nat.le_refl _)); clear HS13)
      | (go_at_call 21; with_reducible (refine (HPI.out s false v3 _ HS14.out HN14.out).mono ?_); rintro e w15 ⟨u15, rfl, H15, hb15⟩; obtain ⟨x15, c15, rfl⟩ := H15.row.shape; have hx15 := hx14.below hb15 hx14.lt; have hb15a := below_add hb14a hb15 hb14a.size; have HN15 := Lib.hid (HN17.out.below hb15a (Nat.le_refl _)))
      | (go_at_call 16; with_reducible (refine (HCI.out v3 _ HN15.out).mono ?_); rintro e w16 ⟨u16, rfl, H16, hb16⟩; obtain ⟨x16, c16, rfl⟩ := H16.row.shape; have hx16 := hx15.below hb16 hx15.lt; have hb16a := below_add hb15a hb16 hb15a.size))
  have hx6 := hx16.below ((Below.refl w16.heap.size w16).alloc (Nat.le_refl _) (.cells #[Value.slice x12 (with5 xs a).length c12, Value.slice x13 (without5 xs a.key).length c13, Value.slice x14 (part5 ks true xs).length c14, Value.slice x15 (part5 ks false xs).length c15, Value.slice x16 xs.length c16] 23)) hx16.lt
  have hb6 := (hb16a.alloc hb16a.size (.cells #[Value.slice x12 (with5 xs a).length c12, Value.slice x13 (without5 xs a.key).length c13, Value.slice x14 (part5 ks true xs).length c14, Value.slice x15 (part5 ks false xs).length c15, Value.slice x16 xs.length c16] 23))
  generalize hW6 : w16.alloc (.cells #[Value.slice x12 (with5 xs a).length c12, Value.slice x13 (without5 xs a.key).length c13, Value.slice x14 (part5 ks true xs).length c14, Value.slice x15 (part5 ks false xs).length c15, Value.slice x16 xs.length c16] 23) = W6 at *
  have hd6 := (Below.refl W6.heap.size W6).drew
  have HXD6 := Lib.hid (hx6.below hd6 hx6.lt)
  have hb6d := hb6.trans (hd6.mono hb6.size)
  have HX6 := Lib.hid (HX17.out.below hb6d (Nat.le_refl _))
  have HV6 := Lib.hid (HV17.out.below hb6d (Nat.le_refl _))
  have hxd6 := HXD6.out
  clear HN12 HN13 HN14 HS14 HN15 hx12 hx13 hx14 hx15 hx16 hb13a hb14a hb15a hb16a hxd hx6 hb6 hd6 HXD
  go_wp2_with fail
  go_region_held3 (fun w' => ABox w.heap.size a w') (first | assumption | trivial | exact hx20.below ((Below.refl _ _).alloc (Nat.le_refl _) _) hx20.lt)
    (first
      | (go_at_call 23; with_reducible (refine (HRW.out _ HX6.out).mono ?_); rintro e w17 ⟨u17, rfl, H17, hb17⟩; obtain ⟨x17, c17, rfl⟩ := H17.row.shape; have hx17 := HXD6.out.below hb17 HXD6.out.lt; have HX7 := Lib.hid (HX6.out.below hb17 (Nat.le_refl _)))
      | (go_at_call 24; with_reducible (refine (HRO.out _ HX7.out).mono ?_); rintro e w18 ⟨u18, rfl, H18, hb18⟩; obtain ⟨x18, c18, rfl⟩ := H18.row.shape; have hx18 := hx17.below hb18 hx17.lt; have hb18a := below_add hb17 hb18 hb17.size; have HX8 := Lib.hid (HX6.out.below hb18a (Nat.le_refl _)); have HV8 := Lib.hid (HV6.out.below hb18a (Nat.le_refl _)))
      | (go_at_call 25; with_reducible (refine (HRP.out true _ HV8.out HX8.out).mono ?_); rintro e w19 ⟨u19, rfl, H19, hb19⟩; obtain ⟨x19, c19, rfl⟩ := H19.row.shape; have hx19 := hx18.below hb19 hx18.lt; have hb19a := below_add hb18a hb19 hb18a.size; have HX9 := Lib.hid (HX6.out.below hb19a (Nat.le_refl _)); have HV9 := Lib.hid (HV6.out.below hb19a (Nat.le_refl _)); clear HX8 HV8)
      | (go_at_call 25; with_reducible (refine (HRP.out false _ HV9.out HX9.out).mono ?_); rintro e w20 ⟨u20, rfl, H20, hb20⟩; obtain ⟨x20, c20, rfl⟩ := H20.row.shape; have hx20 := hx19.below hb20 hx19.lt))
  obtain ⟨W7, hW7⟩ : ∃ W7, w20.alloc (.cells #[Value.slice x17 (with5 xs a).length c17, Value.slice x18 (without5 xs a.key).length c18, Value.slice x19 (part5 ks true xs).length c19, Value.slice x20 (part5 ks false xs).length c20, Value.slice xb xs.length xcap] 23) = W7 := ⟨_, rfl⟩
  obtain ⟨hF, hBW⟩ := loop_made (x12, _, c12) (x13, _, c13) (x14, _, c14) (x15, _, c15) (x16, _, c16) (x17, _, c17) (x18, _, c18) (x19, _, c19) (x20, _, c20) (xb, _, xcap) 23 H12 hb12 H13 hb13 H14 hb14 H15 hb15 H16 hb16 hW6 H17 hb17 H18 hb18 H19 hb19 H20 hb20 hW7 HX17.out
  rw [hW7]
  have HAP := Lib.hid (at_fact (lo := W.drew.heap.size) (hi := w16.heap.size) HA17.out hBW (Nat.le_refl _))
  have HAQ := Lib.hid (at_fact (lo := W.drew.heap.size) (hi := w16.heap.size) HA27.out hBW (Nat.le_refl _))
  have HNF := Lib.hid (low_fact (lo := W.drew.heap.size) (hi := w16.heap.size) HN17.out hBW (Nat.le_refl _))
  have HXF := Lib.hid (low_fact (lo := W.drew.heap.size) (hi := w16.heap.size) HX17.out hBW (Nat.le_refl _))
  have HEW := Lib.hid (below_add HE17.out hBW HE17.out.size)
  have HF := Lib.hid hF
  have HLO := Lib.hid HE17.out.size
  clear H12 H13 H14 H15 H16 H17 H18 H19 H20 hb12 hb13 hb14 hb15 hb16 hb17 hb18 hb19 hb20 hx17 hx18 hx19 hx20 hb18a hb19a HX7 HX9 HV9 hW6 hW7 hF hBW HN17 HS17 HX17 HV17 HA17 HA27 HE17 HXD6 HX6 HV6 hxd6 hb6d HGI HGR HWI HOI HPI HCI HRW HRO HRP HN HG2 HWX HWA HM HR hW hp hi hz0 hz1 hz2
  obtain ⟨st, hst⟩ : ∃ st, st = six W.drew.heap.size w12.heap.size w13.heap.size w14.heap.size w15.heap.size w16.heap.size := ⟨_, rfl⟩
  have hst0 : st 0 = W.drew.heap.size := by rw [hst]; rfl
  have hst5 : st 5 = w16.heap.size := by rw [hst]; rfl
  rw [← hst] at HF
  clear hst
  generalize five (x12, (with5 xs a).length, c12) (x13, (without5 xs a.key).length, c13) (x14, (part5 ks true xs).length, c14) (x15, (part5 ks false xs).length, c15) (x16, xs.length, c16) = sl at HF
  generalize five (x17, (with5 xs a).length, c17) (x18, (without5 xs a.key).length, c18) (x19, (part5 ks true xs).length, c19) (x20, (part5 ks false xs).length, c20) (xb, xs.length, xcap) = wl at HF
  generalize five (with5 xs a) (without5 xs a.key) (part5 ks true xs) (part5 ks false xs) xs = lists at HF
  go_wp2_with fail
  go_loopw [145] (fun s145 wr => ∃ i : Nat, i ≤ 5 ∧ s145 = .int .i64 i ∧ Out (st 0) (st i) W7 wr) (fun s145 _ => 5 - (intOf s145).toNat)
  case atStart => exact ⟨0, Nat.zero_le _, rfl, Out.refl _ _ _⟩
  case round =>
    obtain ⟨i, hi5, rfl, ho⟩ := hrel
    by_cases hlt : i < 5
    · have hi1 : (i : Int) < 5 := by omega
      have hi2 : ((i : Int)).toNat = i := by omega
      have hi3 : IntKind.i64.wrap (i : Int) = (i : Int) := by rw [IntKind.wrap_i64]; omega
      have KS := Lib.hid (fun w9 (hS : (LsC w16.heap.size w20.heap.size i (sl i) (wl i) wr) w9) => (rsame_yes (slV (sl i)) (slV (wl i)) (lists i) w9 (by obtain ⟨_, _, q, rfl⟩ := hS; exact (HF.out.rows hlt ho q).1) (by obtain ⟨_, _, q, rfl⟩ := hS; exact (HF.out.rows hlt ho q).2)).mono fun e w' (h : _ ∧ _) => (by obtain ⟨he, q, rfl⟩ := h; exact ⟨he, hS.drewN q⟩ : e = .returned (.bool true) ∧ (LsC w16.heap.size w20.heap.size i (sl i) (wl i) wr) w'))
      have HO := Lib.hid ho
      have HC0 := Lib.hid (show (LsC w16.heap.size w20.heap.size i (sl i) (wl i) wr) wr from ⟨HF.out.cl i hlt wr (ho.mono (HF.out.low i hi5).2), HF.out.cm i hlt wr (ho.mono (HF.out.low i hi5).2), 0, by first | rfl | simp [World.drewN]⟩)
      clear ho
      go_wp2_with fail
      refine region_classw (C := (LsC w16.heap.size w20.heap.size i (sl i) (wl i) wr)) (by kernel_rfl) (by kernel_rfl) (HC0.out.drewN 1) ?_
      repeat (first
        | (first
             | refine w_skip (by rfl) (by rfl) ?_
             | refine w_skipn (by rfl) (by rfl) ?_
           simp only [Act.put, List.setIfInBounds_toArray, List.set_cons_zero, List.set_cons_succ])
        | (first
             | refine w_val (v := ?_) (by rfl) (fun w9 hS => ?_) ?_
             | refine w_valg (v := ?_) (by rfl) (by rfl) (fun w9 hS => ?_) ?_
           rotate_left
           · obtain ⟨f0, f1, -⟩ := hS
             go_simp
             try with_reducible rfl
           simp only [Act.put, List.setIfInBounds_toArray, List.set_cons_zero, List.set_cons_succ])
        | (first
             | refine w_call (by rfl) (fun w9 hS => ?_) KS.out ?_
             | refine w_callg (by rfl) (by rfl) (fun w9 hS => ?_) KS.out ?_
           · obtain ⟨f0, f1, -⟩ := hS
             go_simp
           simp only [Act.put, List.setIfInBounds_toArray, List.set_cons_zero, List.set_cons_succ]))
      refine w_end ?_
      rintro w5 ⟨f0, -, q, rfl⟩
      have HO2 := Lib.hid (HO.out.drewN q)
      clear HO HC0 KS
      have hls := HF.out.ls hlt HO2.out
      have htop := HF.out.top i hlt
      have hlw := (HF.out.low i hi5).1
      have hlw2 := (HF.out.low (i + 1) (by omega)).2
      have HCL := Lib.hid (HF.out.cl i hlt)
      have HSTP := Lib.hid (HF.out.step i hlt)
      generalize sl i = sli at *
      generalize hn : (lists i).length = n at *
      generalize fl attC (lists i) = cs at *
      have HN3 := Lib.hid hls.1
      rcases hls.2 with ⟨hv, hn0⟩ | ⟨g, cap, cur, hv, hbase, hh, hcap, hmax, hcs, hcells⟩
      · rw [hv] at f0
        clear hls htop
        go_wp2_with fail
        refine wp_loop_rounds 1 ?_
        rw [rounds_succ]
        go_wp2_with fail
        go_roundw
        case rel => exact ⟨i + 1, by omega, by go_num, HO2.out.mono HSTP.out⟩
        case measure => simp [intOf]; omega
      · have hgt := htop g (by rw [hv]; rfl)
        rw [hv] at f0
        have hFr : Free5 g n (wr.drewN q) := ⟨cur, hh, by omega⟩
        have hcl : ∀ wr, Out (st 0) (st 5) W7 wr → wr.cell? ⟨w16.heap.size, i, none⟩ = some (.slice (some ⟨g, 0, none⟩) n cap) := fun wr ho => (HCL.out wr ho).trans (by rw [hv])
        have HCL2 := Lib.hid hcl
        have hnl : n ≤ 9223372036854775807 := by unfold maxLen at hmax; omega
        clear hls htop hcl HCL HN3 hcells hh hcs hv
        go_wp2_with fail
        go_loopw [163] (fun s163 w' => ∃ k : Nat, k ≤ n ∧ s163 = .int .i64 k ∧ Free5 g n w' ∧ Out (st 0) (st (i + 1)) W7 w') (fun s163 _ => n - (intOf s163).toNat)
        case atStart => exact ⟨0, Nat.zero_le _, rfl, hFr, HO2.out.mono HSTP.out⟩
        case round =>
          obtain ⟨k, hk, rfl, hF2, hO⟩ := hrel
          by_cases hk2 : k < n
          · have f0 := HCL2.out _ (hO.mono hlw2)
            obtain ⟨⟨v, hv⟩, hfz⟩ := hF2.cell hk2
            have HF3 := Lib.hid (fun u => (hF2.set (k * 5) u : Free5 g n _))
            have HO3 := Lib.hid (fun u => Out.setCell hO (p := ⟨g, k * 5, none⟩) (by simp; omega) (by simp; omega) u)
            clear hF2 hO
            go_wp2_with fail
            go_roundw
            case rel => exact ⟨k + 1, by omega, by go_num, HF3.out _, HO3.out _⟩
            case measure => simp [intOf]; omega
          · obtain rfl : k = n := by omega
            have HO4 := Lib.hid hO
            clear hF2 hO
            go_wp2_with fail
            go_roundw
            case rel => exact ⟨i + 1, by omega, by go_num, HO4.out⟩
            case measure => simp [intOf]; omega
    · obtain rfl : i = 5 := by omega
      have ho' := ho
      rw [hst0, hst5] at ho'
      obtain ⟨e0, e1, e2, e3⟩ := HAP.out wr ho'
      obtain ⟨k0, k1, k2, k3⟩ := HAQ.out wr ho'
      have HR1 := Lib.hid (HNF.out wr ho')
      have HR2 := Lib.hid (HXF.out wr ho')
      have hbl := ho'.below
      have HEZ := Lib.hid (HEW.out.trans (hbl.mono HLO.out))
      have hq : ∀ w, (binOp .eql 26 (val p.k p.n p.f p.s) (val p.k p.n p.f p.s)).run Try.prog w = .ok (.bool true) w := fun w => by rw [val_eql]; simp
      have hbb : (b == b) = true := by simp
      clear ho ho' hbl
      go_wp2_with (first
        | (go_at_call 15; with_reducible (refine (HSY.out v3 _ HR1.out HR2.out).mono ?_); rintro e w30 ⟨rfl, q30, rfl⟩)
        | (go_at_call 9; refine (HK.out _).mono ?_; rintro e w31 ⟨rfl, hb31⟩))
      go_ret
      exact ⟨rfl, below_add (blw_drewN HEZ.out q30) hb31 (blw_drewN HEZ.out q30).size⟩
end Go.Proofs.Ythbehjilabedoaa
