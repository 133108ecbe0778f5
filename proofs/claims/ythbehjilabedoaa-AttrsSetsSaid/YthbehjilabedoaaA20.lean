
import Derived.Test.YthbehjilabedoaaA19
import Derived.Test.YthbehjilabedoaaA17
import Derived.Test.YthbehjilabedoaaS25
/- A20: AttrsStay -/
namespace Go.Proofs.Ythbehjilabedoaa
open Go.RowKit
set_option linter.unusedVariables false

/-- May, as the law asks for it. -/
theorem may_eq5 (p : Value) (ks : List Key) (v : Value) (xs : List Att) (m : Int) (hm : may5 ks xs = m) (w : World) (hs : Sch w p ks) (hv : Arow w v xs) (hW : ∀ a ∈ xs, AttW a) :
    Calls Try.prog 12 #[p, v] w fun e w' => e = .returned (.int .i64 m) ∧ Below w.heap.size w w' := by
  subst hm; exact may_any5 p ks v xs w hs hv hW
theorem with_rise (v : Value) (xs : List Att) (a : Att) (hr : Rise xs) (w : World) (hv : Arow w v xs) (hl : xs.length ≤ 1000) :
    Calls Try.prog 19 #[v, av a] w fun e w' => ∃ u, e = .returned u ∧ Own5 w w' u (with5 xs a) ∧ Below w.heap.size w w' :=
  (with_any v xs a w hv hl).mono fun e w' ⟨u, ls, he, hls, _, ho, hb⟩ => by
    have := hls hr
    subst this
    exact ⟨u, he, ho, hb⟩
theorem without_rise (v : Value) (xs : List Att) (key : Int) (hr : Rise xs) (w : World) (hv : Arow w v xs) (hl : xs.length ≤ 1000) :
    Calls Try.prog 20 #[v, .int .i64 key] w fun e w' => ∃ u, e = .returned u ∧ Own5 w w' u (without5 xs key) ∧ Below w.heap.size w w' :=
  (without_any v xs key w hv hl).mono fun e w' ⟨u, ls, he, hls, _, ho, hb⟩ => by
    have := hls hr
    subst this
    exact ⟨u, he, ho, hb⟩
theorem get_rise (v : Value) (xs : List Att) (key : Int) (hr : Rise xs) (w : World) (hv : Arow w v xs) (hl : xs.length ≤ 1000000) :
    Calls Try.prog 18 #[v, .int .i64 key] w fun e w' => e = .returned (getV xs key) ∧ Below w.heap.size w w' :=
  (get_any5 v xs key w hv hl).mono fun e w' ⟨a, b, hab, he, hb⟩ => by
    obtain ⟨rfl, rfl⟩ := hab hr
    exact ⟨he, hb⟩

set_option maxRecDepth 100000 in
set_option maxHeartbeats 1000000 in
theorem stay_walk (v : Value) (ks : List Key) (u : Value) (xs : List Att) (a : Att) (w : World) (hv : Krow w v ks) (hK : ∀ k ∈ ks, KeyW k) (hu : Arow w u xs) (hX : ∀ b ∈ xs, AttW b) (ha : AttW a) :
    Calls Try.prog 7 #[v, u, av a] w fun e w' => e = .returned (.bool true) ∧ Below w.heap.size w w' := by
  have HK := Lib.hid (fun w => known_any5 w)
  have hB0 := (Below.refl w.heap.size w).alloc (Nat.le_refl _) (.cells (aca a) 28)
  have hbx := ABox.box a w 28
  have hv0 := hv.below hB0 (Nat.le_refl _)
  have hu0 := hu.below hB0 (Nat.le_refl _)
  have hlk := hv.len
  obtain ⟨kb, kcap, rfl⟩ := hv.shape
  clear hv hu
  by_cases hk64 : 64 < ks.length
  · have d1 : decide ((64 : Int) < (ks.length : Int)) = true := by rw [decide_eq_true_iff]; omega
    clear hv0 hu0 hbx hk64 ha hX hK
    obtain ⟨x1, x2, x3, x4, x5⟩ := a
    go_enter Try.func7, Try.ntmps7
    go_wp2_with (go_at_call 9; refine (HK.out _).mono ?_; rintro e w9 ⟨rfl, hb9⟩)
    go_ret
    exact ⟨rfl, below_add hB0 hb9 hB0.size⟩
  have d1 : decide ((64 : Int) < (ks.length : Int)) = false := by rw [decide_eq_false_iff_not]; omega
  have hgr := fun w hu => great_any u xs w hu
  by_cases hg : great5 xs
  · rw [decide_eq_true hg] at hgr
    have HG := Lib.hid (hgr _ hu0)
    clear hv0 hu0 hbx hk64 ha hX hK hgr hg
    obtain ⟨x1, x2, x3, x4, x5⟩ := a
    go_enter Try.func7, Try.ntmps7
    go_wp2_with (first
      | (go_at_call 8; refine HG.out.mono ?_; rintro e w8 ⟨rfl, rfl⟩)
      | (go_at_call 9; refine (HK.out _).mono ?_; rintro e w9 ⟨rfl, hb9⟩))
    go_ret
    exact ⟨rfl, below_add hB0 hb9 hB0.size⟩
  rw [decide_eq_false hg] at hgr
  have HG := Lib.hid (hgr _ hu0)
  obtain ⟨hl100, -⟩ := not_great hg
  clear hgr hg
  by_cases hs200 : 200 < a.s.size
  · have d2 : decide ((200 : Int) < (a.s.size : Int)) = true := by rw [decide_eq_true_iff]; omega
    clear hv0 hu0 hk64 ha hX hK hs200
    obtain ⟨x1, x2, x3, x4, x5⟩ := a
    simp only at d2
    obtain ⟨g0, g1, g2, g3, g4⟩ := hbx
    go_enter Try.func7, Try.ntmps7
    go_wp2_with (first
      | (go_at_call 8; refine HG.out.mono ?_; rintro e w8 ⟨rfl, rfl⟩)
      | (go_at_call 9; refine (HK.out _).mono ?_; rintro e w9 ⟨rfl, hb9⟩))
    go_ret
    exact ⟨rfl, below_add hB0 hb9 hB0.size⟩
  have d2 : decide ((200 : Int) < (a.s.size : Int)) = false := by rw [decide_eq_false_iff_not]; omega
  by_cases hm : mayKs ks
  · have HN := Lib.hid (new_yes hv0 hK hm)
    have hk := hm.1
    by_cases hz : may5 ks xs = 0
    · have hr := ((may_iff hk).1 hz).1
      have HM0 := Lib.hid (fun s w hs hu => may_eq5 (.pointer (some s)) ks u xs 0 hz w hs hu hX)
      have HF := Lib.hid (fun s w hs => fits_any (.pointer (some s)) ks a.key a.k a.n a.f a.s w hs ha.key ha.f0 ha.f1)
      have HWI := Lib.hid (fun w hu => with_rise u xs a hr w hu (by omega))
      have hq := may_with hk a hz
      obtain ⟨m1, hm1⟩ : ∃ m, may5 ks (with5 xs a) = m := ⟨_, rfl⟩
      rw [hm1] at hq
      have HM1 := Lib.hid (fun s v w hs hv => may_eq5 (.pointer (some s)) ks v (with5 xs a) m1 hm1 w hs hv (attw_with hX ha))
      have HWO := Lib.hid (fun w hu => without_rise u xs a.key hr w hu (by omega))
      have HM2 := Lib.hid (fun s v w hs hv => may_eq5 (.pointer (some s)) ks v (without5 xs a.key) 0 (may_without hk a.key hz) w hs hv (attw_without hX))
      have HPT := Lib.hid (fun s w hs hu => part_any (.pointer (some s)) ks u xs true w hs hu hX (by omega))
      have HM3 := Lib.hid (fun s v w hs hv => may_eq5 (.pointer (some s)) ks v (part5 ks true xs) 0 (may_part hk true hz) w hs hv (attw_part hX))
      have HPF := Lib.hid (fun s w hs hu => part_any (.pointer (some s)) ks u xs false w hs hu hX (by omega))
      have HM4 := Lib.hid (fun s v w hs hv => may_eq5 (.pointer (some s)) ks v (part5 ks false xs) 0 (may_part hk false hz) w hs hv (attw_part hX))
      have HU := Lib.hid hu0
      clear hu0 hv0 hk64 ha hX hK hs200 hm hz hr hm1 hk
      generalize fitsB ks a.key a.k a.n a.f a.s = F at *
      obtain ⟨x1, x2, x3, x4, x5⟩ := a
      simp only at d2 HF HWO
      obtain ⟨g0, g1, g2, g3, g4⟩ := id hbx
      simp only at g0 g1 g2 g3 g4
      go_enter Try.func7, Try.ntmps7
      go_wp2_with (first
        | (go_at_call 8; refine HG.out.mono ?_; rintro e w8 ⟨rfl, rfl⟩)
        | (go_at_call 10; refine HN.out.mono ?_; rintro e w1 ⟨s, rfl, hs1, hb1⟩; have hE1 := below_add hB0 hb1 hB0.size; have HU1 := Lib.hid (HU.out.below hb1 (Nat.le_refl _)); have HS1 := Lib.hid hs1; clear hs1)
        | (go_at_call 12; with_reducible (refine (HM0.out s _ HS1.out HU1.out).mono ?_); rintro e w2 ⟨rfl, hb2⟩; have hE2 := below_add hE1 hb2 hE1.size; have HU2 := Lib.hid (HU1.out.below hb2 (Nat.le_refl _)); have HS2 := Lib.hid (HS1.out.below hb2 (Nat.le_refl _)); have hx2 := hbx.below (below_add hb1 hb2 hb1.size) (by simp))
        | (go_at_call 26; refine (HF.out s _ HS2.out).mono ?_; rintro e w3 ⟨rfl, hb3⟩; have hE3 := below_add hE2 hb3 hE2.size; have HU3 := Lib.hid (HU2.out.below hb3 (Nat.le_refl _)); have HS3 := Lib.hid (HS2.out.below hb3 (Nat.le_refl _)); have hx3 := hx2.below hb3 hx2.lt)
        | (go_at_call 19; refine (HWI.out _ HU3.out).mono ?_; rintro e w4 ⟨u4, rfl, ho4, hb4⟩; have hE4 := below_add hE3 hb4 hE3.size; have HU4 := Lib.hid (HU3.out.below hb4 (Nat.le_refl _)); have HS4 := Lib.hid (HS3.out.below hb4 (Nat.le_refl _)); have hx4 := hx3.below hb4 hx3.lt; have HR4 := Lib.hid ho4.row; clear ho4)
        | (go_at_call 12; with_reducible (refine (HM1.out s u4 _ HS4.out HR4.out).mono ?_); rintro e w5 ⟨rfl, hb5⟩; have hE5 := below_add hE4 hb5 hE4.size; have HU5 := Lib.hid (HU4.out.below hb5 (Nat.le_refl _)); have HS5 := Lib.hid (HS4.out.below hb5 (Nat.le_refl _)); obtain ⟨f0, f1, f2, f3, f4⟩ := hx4.below hb5 hx4.lt)
        | (go_at_call 20; refine (HWO.out _ HU5.out).mono ?_; rintro e w6 ⟨u6, rfl, ho6, hb6⟩; have hE6 := below_add hE5 hb6 hE5.size; have HU6 := Lib.hid (HU5.out.below hb6 (Nat.le_refl _)); have HS6 := Lib.hid (HS5.out.below hb6 (Nat.le_refl _)); have HR6 := Lib.hid ho6.row; clear ho6)
        | (go_at_call 12; with_reducible (refine (HM2.out s u6 _ HS6.out HR6.out).mono ?_); rintro e w7 ⟨rfl, hb7⟩; have hE7 := below_add hE6 hb7 hE6.size; have HU7 := Lib.hid (HU6.out.below hb7 (Nat.le_refl _)); have HS7 := Lib.hid (HS6.out.below hb7 (Nat.le_refl _)))
        | (go_at_call 21; with_reducible (refine (HPT.out s _ HS7.out HU7.out).mono ?_); rintro e w8 ⟨u8, rfl, ho8, hb8⟩; have hE8 := below_add hE7 hb8 hE7.size; have HU8 := Lib.hid (HU7.out.below hb8 (Nat.le_refl _)); have HS8 := Lib.hid (HS7.out.below hb8 (Nat.le_refl _)); have HR8 := Lib.hid ho8.row; clear ho8)
        | (go_at_call 12; with_reducible (refine (HM3.out s u8 _ HS8.out HR8.out).mono ?_); rintro e w9 ⟨rfl, hb9⟩; have hE9 := below_add hE8 hb9 hE8.size; have HU9 := Lib.hid (HU8.out.below hb9 (Nat.le_refl _)); have HS9 := Lib.hid (HS8.out.below hb9 (Nat.le_refl _)))
        | (go_at_call 21; with_reducible (refine (HPF.out s _ HS9.out HU9.out).mono ?_); rintro e w10 ⟨u10, rfl, ho10, hb10⟩; have hE10 := below_add hE9 hb10 hE9.size; have HS10 := Lib.hid (HS9.out.below hb10 (Nat.le_refl _)); have HR10 := Lib.hid ho10.row; clear ho10)
        | (go_at_call 12; with_reducible (refine (HM4.out s u10 _ HS10.out HR10.out).mono ?_); rintro e w11 ⟨rfl, hb11⟩; have hE11 := below_add hE10 hb11 hE10.size)
        | (go_at_call 9; refine (HK.out _).mono ?_; rintro e w12 ⟨rfl, hb12⟩))
      go_ret
      exact ⟨rfl, below_add hE11 hb12 hE11.size⟩
    · have HM0 := Lib.hid (fun s w hs hu => may_eq5 (.pointer (some s)) ks u xs _ rfl w hs hu hX)
      have hz' : (may5 ks xs != 0) = true := by simpa using hz
      generalize may5 ks xs = m at *
      have HU := Lib.hid hu0
      clear hu0 hv0 hk64 ha hX hK hs200 hm hz hk
      obtain ⟨x1, x2, x3, x4, x5⟩ := a
      simp only at d2
      obtain ⟨g0, g1, g2, g3, g4⟩ := id hbx
      simp only at g0 g1 g2 g3 g4
      go_enter Try.func7, Try.ntmps7
      go_wp2_with (first
        | (go_at_call 8; refine HG.out.mono ?_; rintro e w8 ⟨rfl, rfl⟩)
        | (go_at_call 10; refine HN.out.mono ?_; rintro e w1 ⟨s, rfl, hs1, hb1⟩; have hE1 := below_add hB0 hb1 hB0.size; have HU1 := Lib.hid (HU.out.below hb1 (Nat.le_refl _)); have HS1 := Lib.hid hs1; clear hs1)
        | (go_at_call 12; with_reducible (refine (HM0.out s _ HS1.out HU1.out).mono ?_); rintro e w2 ⟨rfl, hb2⟩; have hE2 := below_add hE1 hb2 hE1.size)
        | (go_at_call 9; refine (HK.out _).mono ?_; rintro e w12 ⟨rfl, hb12⟩))
      go_ret
      exact ⟨rfl, below_add hE2 hb12 hE2.size⟩
  · have HN := Lib.hid (new_no hv0 hK hm)
    clear hu0 hv0 hk64 ha hX hK hs200 hm
    obtain ⟨x1, x2, x3, x4, x5⟩ := a
    simp only at d2
    obtain ⟨g0, g1, g2, g3, g4⟩ := id hbx
    simp only at g0 g1 g2 g3 g4
    go_enter Try.func7, Try.ntmps7
    go_wp2_with (first
      | (go_at_call 8; refine HG.out.mono ?_; rintro e w8 ⟨rfl, rfl⟩)
      | (go_at_call 10; refine HN.out.mono ?_; rintro e w1 ⟨rfl, hb1⟩; have hE1 := below_add hB0 hb1 hB0.size)
      | (go_at_call 9; refine (HK.out _).mono ?_; rintro e w12 ⟨rfl, hb12⟩))
    go_ret
    exact ⟨rfl, below_add hE1 hb12 hE1.size⟩
end Go.Proofs.Ythbehjilabedoaa
