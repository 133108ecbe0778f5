
import Derived.Test.YthcakinllcffoaaH14
/- H15: RulesSteps -/
namespace Go.Proofs.Ythcakinllcffoaa
open Go.RowKit
set_option linter.unusedVariables false

set_option maxRecDepth 100000 in
set_option maxHeartbeats 4000000 in
theorem steps_walk (kv v : Value) (ks : List Key) (xs : List Att) (key by_ : Int) (w : World) (hk : Krow w kv ks) (yk : ∀ k ∈ ks, KeyW k) (hv : Arow w v xs) (hwf : (Lit.int .i64 key).wf = true) :
    Calls Try.prog 5 #[kv, v, .int .i64 key, .int .i64 by_] w fun e w' => e = .returned (.bool true) ∧ Below w.heap.size w w' := by
  have HK := Lib.hid (fun w => known14_any w)
  have hlk := hk.len
  have hlv := hv.len
  obtain ⟨ka, kc, rfl⟩ := hk.shape
  obtain ⟨ua, uc, rfl⟩ := hv.shape
  have HB0 := Lib.hid (Below.refl w.heap.size w)
  have Hk0 := Lib.hid hk
  have Hv0 := Lib.hid hv
  clear hk hv
  obtain ⟨g, hg⟩ : ∃ b, gt1 ks.length 0 xs.length = b := ⟨_, rfl⟩
  obtain ⟨r, hr⟩ : ∃ b, decide (Rise xs) = b := ⟨_, rfl⟩
  have HG := Lib.hid (great1_h ks.length 0 xs.length g hg hlk (by omega) hlv ka kc none 0 ua uc w)
  have HR := Lib.hid (fun v W h => riseA_h xs r hr v W h)
  cases g
  rotate_left
  · clear hg hr
    go_enter Try.func5, Try.ntmps5
    go_wp2_with (first
      | (go_at_call 7; (with_reducible refine (HG.out).mono ?_); rintro e w1 ⟨rfl, hb⟩; have hb1 := hb; have Hk1 := Lib.hid (Hk0.out.below hb1 (Nat.le_refl _)); have Hv1 := Lib.hid (Hv0.out.below hb1 (Nat.le_refl _)); have HB1 := Lib.hid (below_add HB0.out hb1 HB0.out.size); clear hb hb1)
      | (go_at_call 8; (with_reducible refine (HK.out _).mono ?_); rintro e w99 ⟨rfl, hb⟩; have HB99 := Lib.hid (below_add HB1.out hb HB1.out.size); clear hb))
    go_ret
    exact ⟨rfl, HB99.out⟩
  cases r
  · clear hg hr
    go_enter Try.func5, Try.ntmps5
    go_wp2_with (first
      | (go_at_call 7; (with_reducible refine (HG.out).mono ?_); rintro e w1 ⟨rfl, hb⟩; have hb1 := hb; have Hk1 := Lib.hid (Hk0.out.below hb1 (Nat.le_refl _)); have Hv1 := Lib.hid (Hv0.out.below hb1 (Nat.le_refl _)); have HB1 := Lib.hid (below_add HB0.out hb1 HB0.out.size); clear hb hb1)
      | (go_at_call 12; (with_reducible refine (HR.out _ _ Hv1.out).mono ?_); rintro e w2 ⟨rfl, hb⟩; have hb2 := hb; have Hk2 := Lib.hid (Hk1.out.below hb2 (Nat.le_refl _)); have Hv2 := Lib.hid (Hv1.out.below hb2 (Nat.le_refl _)); have HB2 := Lib.hid (below_add HB1.out hb2 HB1.out.size); clear hb hb2)
      | (go_at_call 8; (with_reducible refine (HK.out _).mono ?_); rintro e w99 ⟨rfl, hb⟩; have HB99 := Lib.hid (below_add HB2.out hb HB2.out.size); clear hb))
    go_ret
    exact ⟨rfl, HB99.out⟩
  have hr := of_decide_eq_true hr
  obtain ⟨hk64, -, hx100⟩ := gt1_no hg
  by_cases hm : mayKs ks
  rotate_left
  · have HN := Lib.hid (newno_h ks yk hm)
    clear hg hr hm yk
    go_enter Try.func5, Try.ntmps5
    go_wp2_with (first
      | (go_at_call 7; (with_reducible refine (HG.out).mono ?_); rintro e w1 ⟨rfl, hb⟩; have hb1 := hb; have Hk1 := Lib.hid (Hk0.out.below hb1 (Nat.le_refl _)); have Hv1 := Lib.hid (Hv0.out.below hb1 (Nat.le_refl _)); have HB1 := Lib.hid (below_add HB0.out hb1 HB0.out.size); clear hb hb1)
      | (go_at_call 12; (with_reducible refine (HR.out _ _ Hv1.out).mono ?_); rintro e w2 ⟨rfl, hb⟩; have hb2 := hb; have Hk2 := Lib.hid (Hk1.out.below hb2 (Nat.le_refl _)); have Hv2 := Lib.hid (Hv1.out.below hb2 (Nat.le_refl _)); have HB2 := Lib.hid (below_add HB1.out hb2 HB1.out.size); clear hb hb2)
      | (go_at_call 9; (with_reducible refine (HN.out _ _ Hk2.out).mono ?_); rintro e w3 ⟨rfl, hb⟩; have hb3 := hb; have Hk3 := Lib.hid (Hk2.out.below hb3 (Nat.le_refl _)); have Hv3 := Lib.hid (Hv2.out.below hb3 (Nat.le_refl _)); have HB3 := Lib.hid (below_add HB2.out hb3 HB2.out.size); clear hb hb3)
      | (go_at_call 8; (with_reducible refine (HK.out _).mono ?_); rintro e w99 ⟨rfl, hb⟩; have HB99 := Lib.hid (below_add HB3.out hb HB3.out.size); clear hb))
    go_ret
    exact ⟨rfl, HB99.out⟩
  have HN := Lib.hid (new_h ks yk hm)
  have hG := hm.2
  obtain ⟨n, hn⟩ : ∃ n, stepV (numN xs key) by_ = n := ⟨_, rfl⟩
  have hn08 := stepV_range (numN xs key) by_
  rw [hn] at hn08
  obtain ⟨kk, hkk⟩ : ∃ k, (fnd ks key).getD noKey = k := ⟨_, rfl⟩
  obtain ⟨bb, hbb⟩ : ∃ b, (fnd ks key).isSome = b := ⟨_, rfl⟩
  have HF := Lib.hid (fun v W h => find_h ks key hwf kk bb hkk hbb v W h)
  have hz := @sE_zero ks key
  have ho := sE_only ks key
  obtain ⟨se, hse⟩ : ∃ e, sE ks key = e := ⟨_, rfl⟩
  rw [hkk, hbb, hse] at hz
  rw [hse] at ho
  obtain ⟨y1, y2, y3, y4, y5, y6⟩ := kk
  simp only at hz
  clear hg hm yk hkk hbb
  by_cases h0 : se = 0
  rotate_left
  · have HS := Lib.hid (fun v u W h h' => step_h ks xs key by_ hr (by omega) hwf n hn se hse [] (by unfold sL; rw [hse, if_neg h0]) v u W h h')
    have en : (se != 0) = true := by simpa using h0
    have hz := fun h => h0 (hz.2 h)
    clear hse hn ho hr h0
    cases bb
    · clear hz
      go_enter Try.func5, Try.ntmps5
      go_wp2_with (first
        | (go_at_call 7; (with_reducible refine (HG.out).mono ?_); rintro e w1 ⟨rfl, hb⟩; have hb1 := hb; have Hk1 := Lib.hid (Hk0.out.below hb1 (Nat.le_refl _)); have Hv1 := Lib.hid (Hv0.out.below hb1 (Nat.le_refl _)); have HB1 := Lib.hid (below_add HB0.out hb1 HB0.out.size); clear hb hb1)
        | (go_at_call 12; (with_reducible refine (HR.out _ _ Hv1.out).mono ?_); rintro e w2 ⟨rfl, hb⟩; have hb2 := hb; have Hk2 := Lib.hid (Hk1.out.below hb2 (Nat.le_refl _)); have Hv2 := Lib.hid (Hv1.out.below hb2 (Nat.le_refl _)); have HB2 := Lib.hid (below_add HB1.out hb2 HB1.out.size); clear hb hb2)
        | (go_at_call 9; (with_reducible refine (HN.out _ _ Hk2.out).mono ?_); rintro e w3 ⟨s3, rfl, hs, hb⟩; have hb3 := hb; have Hv3 := Lib.hid (Hv2.out.below hb3 (Nat.le_refl _)); have HB3 := Lib.hid (below_add HB2.out hb3 HB2.out.size); have Hs3 := Lib.hid (hs.out); clear hs; clear hb hb3)
        | (go_at_call 27; (with_reducible refine (HF.out _ _ Hs3.out).mono ?_); rintro e w4 ⟨rfl, hb⟩; have hb4 := hb.alloc hb.size (.cells #[.int .i64 y1, .bool y2, .int .u8 y3, .bool y4, .bool y5, .int .i64 y6] 59); have Hv4 := Lib.hid (Hv3.out.below hb4 (Nat.le_refl _)); have Hs4 := Lib.hid (Hs3.out.below hb4 (Nat.le_refl _)); have HB4 := Lib.hid (below_add HB3.out hb4 HB3.out.size); have hkb := KBox.box ⟨y1, y2, y3, y4, y5, y6⟩ w4 59; clear hb hb4)
        | (go_at_call 16; (with_reducible refine (HS.out _ _ _ Hs4.out Hv4.out).mono ?_); rintro e w5 ⟨u5, rfl, ho6, hb⟩; have hb5 := hb; have Hv5 := Lib.hid (Hv4.out.below hb5 (Nat.le_refl _)); have Hs5 := Lib.hid (Hs4.out.below hb5 (Nat.le_refl _)); have HB5 := Lib.hid (below_add HB4.out hb5 HB4.out.size); have Hp5 := Lib.hid (own6_row ho6.out); obtain ⟨p5, q5, hpq⟩ := Hp5.out.shape; subst hpq; obtain ⟨k0, k1, k2, k3, k4, k5⟩ := hkb.below hb5 (by simp); simp only at k0 k1 k2 k3 k4 k5; clear ho6 hkb; clear hb hb5)
        | (go_at_call 8; (with_reducible refine (HK.out _).mono ?_); rintro e w99 ⟨rfl, hb⟩; have HB99 := Lib.hid (below_add HB5.out hb HB5.out.size); clear hb))
      go_ret
      exact ⟨rfl, HB99.out⟩
    · by_cases h3 : y3 = 2
      · subst h3
        obtain rfl : y2 = false := by cases y2 with | false => rfl | true => exact (hz ⟨rfl, rfl, rfl⟩).elim
        clear hz
        go_enter Try.func5, Try.ntmps5
        go_wp2_with (first
          | (go_at_call 7; (with_reducible refine (HG.out).mono ?_); rintro e w1 ⟨rfl, hb⟩; have hb1 := hb; have Hk1 := Lib.hid (Hk0.out.below hb1 (Nat.le_refl _)); have Hv1 := Lib.hid (Hv0.out.below hb1 (Nat.le_refl _)); have HB1 := Lib.hid (below_add HB0.out hb1 HB0.out.size); clear hb hb1)
          | (go_at_call 12; (with_reducible refine (HR.out _ _ Hv1.out).mono ?_); rintro e w2 ⟨rfl, hb⟩; have hb2 := hb; have Hk2 := Lib.hid (Hk1.out.below hb2 (Nat.le_refl _)); have Hv2 := Lib.hid (Hv1.out.below hb2 (Nat.le_refl _)); have HB2 := Lib.hid (below_add HB1.out hb2 HB1.out.size); clear hb hb2)
          | (go_at_call 9; (with_reducible refine (HN.out _ _ Hk2.out).mono ?_); rintro e w3 ⟨s3, rfl, hs, hb⟩; have hb3 := hb; have Hv3 := Lib.hid (Hv2.out.below hb3 (Nat.le_refl _)); have HB3 := Lib.hid (below_add HB2.out hb3 HB2.out.size); have Hs3 := Lib.hid (hs.out); clear hs; clear hb hb3)
          | (go_at_call 27; (with_reducible refine (HF.out _ _ Hs3.out).mono ?_); rintro e w4 ⟨rfl, hb⟩; have hb4 := hb.alloc hb.size (.cells #[.int .i64 y1, .bool false, .int .u8 2, .bool y4, .bool y5, .int .i64 y6] 59); have Hv4 := Lib.hid (Hv3.out.below hb4 (Nat.le_refl _)); have Hs4 := Lib.hid (Hs3.out.below hb4 (Nat.le_refl _)); have HB4 := Lib.hid (below_add HB3.out hb4 HB3.out.size); have hkb := KBox.box ⟨y1, false, 2, y4, y5, y6⟩ w4 59; clear hb hb4)
          | (go_at_call 16; (with_reducible refine (HS.out _ _ _ Hs4.out Hv4.out).mono ?_); rintro e w5 ⟨u5, rfl, ho6, hb⟩; have hb5 := hb; have Hv5 := Lib.hid (Hv4.out.below hb5 (Nat.le_refl _)); have Hs5 := Lib.hid (Hs4.out.below hb5 (Nat.le_refl _)); have HB5 := Lib.hid (below_add HB4.out hb5 HB4.out.size); have Hp5 := Lib.hid (own6_row ho6.out); obtain ⟨p5, q5, hpq⟩ := Hp5.out.shape; subst hpq; obtain ⟨k0, k1, k2, k3, k4, k5⟩ := hkb.below hb5 (by simp); simp only at k0 k1 k2 k3 k4 k5; clear ho6 hkb; clear hb hb5)
          | (go_at_call 8; (with_reducible refine (HK.out _).mono ?_); rintro e w99 ⟨rfl, hb⟩; have HB99 := Lib.hid (below_add HB5.out hb HB5.out.size); clear hb))
        go_ret
        exact ⟨rfl, HB99.out⟩
      · have e3 : (y3 != 2) = true := by simpa using h3
        clear hz h3
        go_enter Try.func5, Try.ntmps5
        go_wp2_with (first
          | (go_at_call 7; (with_reducible refine (HG.out).mono ?_); rintro e w1 ⟨rfl, hb⟩; have hb1 := hb; have Hk1 := Lib.hid (Hk0.out.below hb1 (Nat.le_refl _)); have Hv1 := Lib.hid (Hv0.out.below hb1 (Nat.le_refl _)); have HB1 := Lib.hid (below_add HB0.out hb1 HB0.out.size); clear hb hb1)
          | (go_at_call 12; (with_reducible refine (HR.out _ _ Hv1.out).mono ?_); rintro e w2 ⟨rfl, hb⟩; have hb2 := hb; have Hk2 := Lib.hid (Hk1.out.below hb2 (Nat.le_refl _)); have Hv2 := Lib.hid (Hv1.out.below hb2 (Nat.le_refl _)); have HB2 := Lib.hid (below_add HB1.out hb2 HB1.out.size); clear hb hb2)
          | (go_at_call 9; (with_reducible refine (HN.out _ _ Hk2.out).mono ?_); rintro e w3 ⟨s3, rfl, hs, hb⟩; have hb3 := hb; have Hv3 := Lib.hid (Hv2.out.below hb3 (Nat.le_refl _)); have HB3 := Lib.hid (below_add HB2.out hb3 HB2.out.size); have Hs3 := Lib.hid (hs.out); clear hs; clear hb hb3)
          | (go_at_call 27; (with_reducible refine (HF.out _ _ Hs3.out).mono ?_); rintro e w4 ⟨rfl, hb⟩; have hb4 := hb.alloc hb.size (.cells #[.int .i64 y1, .bool y2, .int .u8 y3, .bool y4, .bool y5, .int .i64 y6] 59); have Hv4 := Lib.hid (Hv3.out.below hb4 (Nat.le_refl _)); have Hs4 := Lib.hid (Hs3.out.below hb4 (Nat.le_refl _)); have HB4 := Lib.hid (below_add HB3.out hb4 HB3.out.size); have hkb := KBox.box ⟨y1, y2, y3, y4, y5, y6⟩ w4 59; clear hb hb4)
          | (go_at_call 16; (with_reducible refine (HS.out _ _ _ Hs4.out Hv4.out).mono ?_); rintro e w5 ⟨u5, rfl, ho6, hb⟩; have hb5 := hb; have Hv5 := Lib.hid (Hv4.out.below hb5 (Nat.le_refl _)); have Hs5 := Lib.hid (Hs4.out.below hb5 (Nat.le_refl _)); have HB5 := Lib.hid (below_add HB4.out hb5 HB4.out.size); have Hp5 := Lib.hid (own6_row ho6.out); obtain ⟨p5, q5, hpq⟩ := Hp5.out.shape; subst hpq; obtain ⟨k0, k1, k2, k3, k4, k5⟩ := hkb.below hb5 (by simp); simp only at k0 k1 k2 k3 k4 k5; clear ho6 hkb; clear hb hb5)
          | (go_at_call 8; (with_reducible refine (HK.out _).mono ?_); rintro e w99 ⟨rfl, hb⟩; have HB99 := Lib.hid (below_add HB5.out hb HB5.out.size); clear hb))
        go_ret
        exact ⟨rfl, HB99.out⟩
  subst h0
  obtain ⟨rfl, rfl, rfl⟩ := hz.1 rfl
  clear hz ho
  have hget := now_get hG hr key n
  have hnum := now_num hG hr key n
  have hagain := now_again (ks := ks) hr key n
  have hstep := step_h ks xs key by_ hr (by omega) hwf n hn 0 hse (stepQ ks xs key n) (by unfold sL; rw [hse, if_pos rfl])
  have hpl := stepP_len hG key n
  have hql : (stepQ ks xs key n).length ≤ ks.length + 1 := by unfold stepQ; split <;> simp_all
  have hap1 := fun v1 v2 W h1 h2 => app_h xs (stepQ ks xs key n) (app xs (stepP ks key n)) (app_stepQ hr key n) (by omega) v1 v2 W h1 h2
  have hnr := app_rise hr (stepP_rise ks key n)
  have hnl := app_len xs (stepP ks key n)
  generalize app xs (stepP ks key n) = nw at *
  have hst2 := step_h ks nw key 0 hnr (by omega) hwf n (by rw [hnum]; exact stepV_zero hn08.1 hn08.2) 0 hse [] (by unfold sL; rw [hse, if_pos rfl]; exact hagain)
  have hap2 := fun v1 v2 W h1 h2 => app_h nw [] nw (app_nil hnr) (by simp; omega) v1 v2 W h1 h2
  have hsm := fun v1 v2 W h1 h2 => rsameA_h nw nw true (by simp) v1 v2 W h1 h2
  have HS := Lib.hid hstep
  have HA1 := Lib.hid hap1
  have HS2 := Lib.hid hst2
  have HA2 := Lib.hid hap2
  have HM := Lib.hid hsm
  clear hstep hap1 hst2 hap2 hsm hnum hagain hpl hql hnr hnl hse hn hr hG
  by_cases hn0 : n = 0
  · have hgv : getV nw key = .tuple #[vv noAtt, .bool false] := getV_none (by rw [hget, if_pos hn0])
    have HGE := Lib.hid (fun u W h => rget_h nw key noAtt false hgv u W h)
    clear hgv hget
    go_enter Try.func5, Try.ntmps5
    go_wp2_with (first
      | (go_at_call 7; (with_reducible refine (HG.out).mono ?_); rintro e w1 ⟨rfl, hb⟩; have hb1 := hb; have Hk1 := Lib.hid (Hk0.out.below hb1 (Nat.le_refl _)); have Hv1 := Lib.hid (Hv0.out.below hb1 (Nat.le_refl _)); have HB1 := Lib.hid (below_add HB0.out hb1 HB0.out.size); clear hb hb1)
      | (go_at_call 12; (with_reducible refine (HR.out _ _ Hv1.out).mono ?_); rintro e w2 ⟨rfl, hb⟩; have hb2 := hb; have Hk2 := Lib.hid (Hk1.out.below hb2 (Nat.le_refl _)); have Hv2 := Lib.hid (Hv1.out.below hb2 (Nat.le_refl _)); have HB2 := Lib.hid (below_add HB1.out hb2 HB1.out.size); clear hb hb2)
      | (go_at_call 9; (with_reducible refine (HN.out _ _ Hk2.out).mono ?_); rintro e w3 ⟨s3, rfl, hs, hb⟩; have hb3 := hb; have Hv3 := Lib.hid (Hv2.out.below hb3 (Nat.le_refl _)); have HB3 := Lib.hid (below_add HB2.out hb3 HB2.out.size); have Hs3 := Lib.hid (hs.out); clear hs; clear hb hb3)
      | (go_at_call 27; (with_reducible refine (HF.out _ _ Hs3.out).mono ?_); rintro e w4 ⟨rfl, hb⟩; have hb4 := hb.alloc hb.size (.cells #[.int .i64 y1, .bool true, .int .u8 2, .bool y4, .bool y5, .int .i64 y6] 59); have Hv4 := Lib.hid (Hv3.out.below hb4 (Nat.le_refl _)); have Hs4 := Lib.hid (Hs3.out.below hb4 (Nat.le_refl _)); have HB4 := Lib.hid (below_add HB3.out hb4 HB3.out.size); have hkb := KBox.box ⟨y1, true, 2, y4, y5, y6⟩ w4 59; clear hb hb4)
      | (go_at_call 16; (with_reducible refine (HS.out _ _ _ Hs4.out Hv4.out).mono ?_); rintro e w5 ⟨u5, rfl, ho6, hb⟩; have hb5 := hb; have Hv5 := Lib.hid (Hv4.out.below hb5 (Nat.le_refl _)); have Hs5 := Lib.hid (Hs4.out.below hb5 (Nat.le_refl _)); have HB5 := Lib.hid (below_add HB4.out hb5 HB4.out.size); have Hp5 := Lib.hid (own6_row ho6.out); obtain ⟨k0, k1, k2, k3, k4, k5⟩ := hkb.below hb5 (by simp); simp only at k0 k1 k2 k3 k4 k5; clear ho6 hkb; clear hb hb5)
      | (go_at_call 24; (with_reducible refine (HA1.out _ _ _ Hv5.out Hp5.out).mono ?_); rintro e w6 ⟨u6, rfl, ha, hb⟩; have hb6 := hb; have Hs6 := Lib.hid (Hs5.out.below hb6 (Nat.le_refl _)); have HB6 := Lib.hid (below_add HB5.out hb6 HB5.out.size); have Hn6 := Lib.hid (ha.out); clear ha; clear hb hb6)
      | (go_at_call 25; (with_reducible refine (HGE.out _ _ Hn6.out).mono ?_); rintro e w7 ⟨rfl, hb⟩; have hb7 := hb.alloc hb.size (.cells #[.int .u8 0, .int .i64 0, .int .u64 0, .string ⟨#[]⟩] 47); have Hs7 := Lib.hid (Hs6.out.below hb7 (Nat.le_refl _)); have Hn7 := Lib.hid (Hn6.out.below hb7 (Nat.le_refl _)); have HB7 := Lib.hid (below_add HB6.out hb7 HB6.out.size); clear hb hb7)
      | (go_at_call 16; (with_reducible refine (HS2.out _ _ _ Hs7.out Hn7.out).mono ?_); rintro e w8 ⟨u8, rfl, ho6, hb⟩; have hb8 := hb; have Hs8 := Lib.hid (Hs7.out.below hb8 (Nat.le_refl _)); have Hn8 := Lib.hid (Hn7.out.below hb8 (Nat.le_refl _)); have HB8 := Lib.hid (below_add HB7.out hb8 HB7.out.size); have Hq8 := Lib.hid (own6_row ho6.out); obtain ⟨p8, q8, hpq⟩ := Hq8.out.shape; subst hpq; simp only [List.length_nil] at Hq8; clear ho6; clear hb hb8)
      | (go_at_call 24; (with_reducible refine (HA2.out _ _ _ Hn8.out Hq8.out).mono ?_); rintro e w9 ⟨u9, rfl, ha, hb⟩; have hb9 := hb; have Hs9 := Lib.hid (Hs8.out.below hb9 (Nat.le_refl _)); have Hn9 := Lib.hid (Hn8.out.below hb9 (Nat.le_refl _)); have Hq9 := Lib.hid (Hq8.out.below hb9 (Nat.le_refl _)); have HB9 := Lib.hid (below_add HB8.out hb9 HB8.out.size); have Hm9 := Lib.hid (ha.out); clear ha; clear hb hb9)
      | (go_at_call 20; (with_reducible refine (HM.out _ _ _ Hm9.out Hn9.out).mono ?_); rintro e w10 ⟨rfl, hb⟩; have hb10 := hb; have Hs10 := Lib.hid (Hs9.out.below hb10 (Nat.le_refl _)); have Hn10 := Lib.hid (Hn9.out.below hb10 (Nat.le_refl _)); have Hq10 := Lib.hid (Hq9.out.below hb10 (Nat.le_refl _)); have Hm10 := Lib.hid (Hm9.out.below hb10 (Nat.le_refl _)); have HB10 := Lib.hid (below_add HB9.out hb10 HB9.out.size); clear hb hb10)
      | (go_at_call 8; (with_reducible refine (HK.out _).mono ?_); rintro e w99 ⟨rfl, hb⟩; have HB99 := Lib.hid (below_add HB10.out hb HB10.out.size); clear hb))
    go_ret
    exact ⟨rfl, HB99.out⟩
  · have hgv : getV nw key = .tuple #[vv (toA (setC key n)), .bool true] := getV_some (by rw [hget, if_neg hn0])
    have HGE := Lib.hid (fun u W h => rget_h nw key (toA (setC key n)) true hgv u W h)
    have d1 : decide (n < 1) = false := by rw [decide_eq_false_iff_not]; omega
    have d2 : decide (8 < n) = false := by rw [decide_eq_false_iff_not]; omega
    simp only [toA] at HGE
    clear hgv hget hn0 hn08
    go_enter Try.func5, Try.ntmps5
    go_wp2_with (first
      | (go_at_call 7; (with_reducible refine (HG.out).mono ?_); rintro e w1 ⟨rfl, hb⟩; have hb1 := hb; have Hk1 := Lib.hid (Hk0.out.below hb1 (Nat.le_refl _)); have Hv1 := Lib.hid (Hv0.out.below hb1 (Nat.le_refl _)); have HB1 := Lib.hid (below_add HB0.out hb1 HB0.out.size); clear hb hb1)
      | (go_at_call 12; (with_reducible refine (HR.out _ _ Hv1.out).mono ?_); rintro e w2 ⟨rfl, hb⟩; have hb2 := hb; have Hk2 := Lib.hid (Hk1.out.below hb2 (Nat.le_refl _)); have Hv2 := Lib.hid (Hv1.out.below hb2 (Nat.le_refl _)); have HB2 := Lib.hid (below_add HB1.out hb2 HB1.out.size); clear hb hb2)
      | (go_at_call 9; (with_reducible refine (HN.out _ _ Hk2.out).mono ?_); rintro e w3 ⟨s3, rfl, hs, hb⟩; have hb3 := hb; have Hv3 := Lib.hid (Hv2.out.below hb3 (Nat.le_refl _)); have HB3 := Lib.hid (below_add HB2.out hb3 HB2.out.size); have Hs3 := Lib.hid (hs.out); clear hs; clear hb hb3)
      | (go_at_call 27; (with_reducible refine (HF.out _ _ Hs3.out).mono ?_); rintro e w4 ⟨rfl, hb⟩; have hb4 := hb.alloc hb.size (.cells #[.int .i64 y1, .bool true, .int .u8 2, .bool y4, .bool y5, .int .i64 y6] 59); have Hv4 := Lib.hid (Hv3.out.below hb4 (Nat.le_refl _)); have Hs4 := Lib.hid (Hs3.out.below hb4 (Nat.le_refl _)); have HB4 := Lib.hid (below_add HB3.out hb4 HB3.out.size); have hkb := KBox.box ⟨y1, true, 2, y4, y5, y6⟩ w4 59; clear hb hb4)
      | (go_at_call 16; (with_reducible refine (HS.out _ _ _ Hs4.out Hv4.out).mono ?_); rintro e w5 ⟨u5, rfl, ho6, hb⟩; have hb5 := hb; have Hv5 := Lib.hid (Hv4.out.below hb5 (Nat.le_refl _)); have Hs5 := Lib.hid (Hs4.out.below hb5 (Nat.le_refl _)); have HB5 := Lib.hid (below_add HB4.out hb5 HB4.out.size); have Hp5 := Lib.hid (own6_row ho6.out); obtain ⟨k0, k1, k2, k3, k4, k5⟩ := hkb.below hb5 (by simp); simp only at k0 k1 k2 k3 k4 k5; clear ho6 hkb; clear hb hb5)
      | (go_at_call 24; (with_reducible refine (HA1.out _ _ _ Hv5.out Hp5.out).mono ?_); rintro e w6 ⟨u6, rfl, ha, hb⟩; have hb6 := hb; have Hs6 := Lib.hid (Hs5.out.below hb6 (Nat.le_refl _)); have HB6 := Lib.hid (below_add HB5.out hb6 HB5.out.size); have Hn6 := Lib.hid (ha.out); clear ha; clear hb hb6)
      | (go_at_call 25; (with_reducible refine (HGE.out _ _ Hn6.out).mono ?_); rintro e w7 ⟨rfl, hb⟩; have hb7 := hb.alloc hb.size (.cells #[.int .u8 2, .int .i64 n, .int .u64 0, .string ⟨#[]⟩] 47); have Hs7 := Lib.hid (Hs6.out.below hb7 (Nat.le_refl _)); have Hn7 := Lib.hid (Hn6.out.below hb7 (Nat.le_refl _)); have HB7 := Lib.hid (below_add HB6.out hb7 HB6.out.size); clear hb hb7)
      | (go_at_call 16; (with_reducible refine (HS2.out _ _ _ Hs7.out Hn7.out).mono ?_); rintro e w8 ⟨u8, rfl, ho6, hb⟩; have hb8 := hb; have Hs8 := Lib.hid (Hs7.out.below hb8 (Nat.le_refl _)); have Hn8 := Lib.hid (Hn7.out.below hb8 (Nat.le_refl _)); have HB8 := Lib.hid (below_add HB7.out hb8 HB7.out.size); have Hq8 := Lib.hid (own6_row ho6.out); obtain ⟨p8, q8, hpq⟩ := Hq8.out.shape; subst hpq; simp only [List.length_nil] at Hq8; clear ho6; clear hb hb8)
      | (go_at_call 24; (with_reducible refine (HA2.out _ _ _ Hn8.out Hq8.out).mono ?_); rintro e w9 ⟨u9, rfl, ha, hb⟩; have hb9 := hb; have Hs9 := Lib.hid (Hs8.out.below hb9 (Nat.le_refl _)); have Hn9 := Lib.hid (Hn8.out.below hb9 (Nat.le_refl _)); have Hq9 := Lib.hid (Hq8.out.below hb9 (Nat.le_refl _)); have HB9 := Lib.hid (below_add HB8.out hb9 HB8.out.size); have Hm9 := Lib.hid (ha.out); clear ha; clear hb hb9)
      | (go_at_call 20; (with_reducible refine (HM.out _ _ _ Hm9.out Hn9.out).mono ?_); rintro e w10 ⟨rfl, hb⟩; have hb10 := hb; have Hs10 := Lib.hid (Hs9.out.below hb10 (Nat.le_refl _)); have Hn10 := Lib.hid (Hn9.out.below hb10 (Nat.le_refl _)); have Hq10 := Lib.hid (Hq9.out.below hb10 (Nat.le_refl _)); have Hm10 := Lib.hid (Hm9.out.below hb10 (Nat.le_refl _)); have HB10 := Lib.hid (below_add HB9.out hb10 HB9.out.size); clear hb hb10)
      | (go_at_call 8; (with_reducible refine (HK.out _).mono ?_); rintro e w99 ⟨rfl, hb⟩; have HB99 := Lib.hid (below_add HB10.out hb HB10.out.size); clear hb))
    go_ret
    exact ⟨rfl, HB99.out⟩
end Go.Proofs.Ythcakinllcffoaa
