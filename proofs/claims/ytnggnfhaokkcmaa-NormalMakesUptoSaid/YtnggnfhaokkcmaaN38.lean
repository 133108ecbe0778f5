
import Derived.Test.YtnggnfhaokkcmaaN37
import Derived.Deep.CutBlock
import Derived.Deep.CutRange
/- N38: NormalMakes -/
namespace Go.Proofs.Ytnggnfhaokkcmaa
open Go.RowKit
set_option linter.unusedVariables false
set_option maxRecDepth 100000


set_option maxHeartbeats 8000000 in
theorem makes_walk (b0 : Option Addr) (len0 cap0 : Nat) (ks : List Key) (b1 : Option Addr) (len1 cap1 : Nat) (zs : List Oz) (w : World) (hk : Krow w (.slice b0 len0 cap0) ks) (hx : Orow w (.slice b1 len1 cap1) zs) (hW : ∀ z ∈ zs, OpW z) (hz : totO zs ≤ 1048576) :
    Calls Try.prog 4 #[.slice b0 len0 cap0, .slice b1 len1 cap1] w fun e w' => e = .returned (.bool true) ∧ Below w.heap.size w w' := by
  have HT := Lib.hid (tame_h hk hx hW hz)
  have HL := Lib.hid (law_in hW hz)
  have HK := Lib.hid (fun W => known16_any W)
  have HNW := Lib.hid (fun W => new_any W)
  have HX := Lib.hid (fun W (hb : Below w.heap.size w W) => hx.below hb)
  obtain ⟨b1', cap1', e1⟩ := hx.shape
  injection e1 with e1 e2 e3
  subst e1 e2 e3
  clear hk hx hW hz
  go_enter Try.func4, Try.ntmps4
  go_wp2_with fail
  go_at_call 8
  refine HT.out.mono ?_
  rintro e w1 ⟨⟨b, rfl, hb⟩, hB⟩
  have HB1 := Lib.hid hB
  cases b
  · clear hb hB HT
    go_wp2_with (first
      | (go_at_call 13; (with_reducible refine (HK.out _).mono ?_); rintro e w99 ⟨rfl, hb⟩; have HB99 := Lib.hid (below_add HB1.out hb HB1.out.size); clear hb))
    go_ret
    exact ⟨rfl, HB99.out⟩
  have HTM := Lib.hid (tame_yes (hb rfl) HL.out.len)
  have hl1 := HL.out.len
  by_cases h60 : 60 < zs.length
  · have d1 : decide ((60 : Int) < (zs.length : Int)) = true := decide_eq_true (by omega)
    clear hb hB HT
    go_wp2_with (first
      | (go_at_call 13; (with_reducible refine (HK.out _).mono ?_); rintro e w99 ⟨rfl, hb⟩; have HB99 := Lib.hid (below_add HB1.out hb HB1.out.size); clear hb))
    go_ret
    exact ⟨rfl, HB99.out⟩
  have d1 : decide ((60 : Int) < (zs.length : Int)) = false := decide_eq_false (by omega)
  have h60' : zs.length ≤ 60 := by omega
  have HX1 := Lib.hid (HX.out _ HB1.out)
  have HAT := Lib.hid (fun (h0 : 0 < zs.length) => HX1.out.row.ats h0)
  have HP0 := Lib.hid (show MKP w1 w1.heap.size (w1.heap.size + 1) (tellR ((zs.take 0).map Oz.o)) (tellR ((zs.take 0).map Oz.o)) _ from ⟨_, _, mk_new w1⟩)
  have HW1 := Lib.hid hB.size
  clear hb hB HT
  go_wp2_with ((go_at_call 17; (with_reducible refine (HNW.out _).mono ?_); rintro e w2 ⟨rfl, rfl⟩; skip))
  generalize w1.heap.size + 1 = bz at HP0 ⊢
  generalize w1.heap.size = bm at HP0 ⊢
  go_loopw [31] (fun i wr => ∃ k : Nat, k ≤ zs.length ∧ i = .int .i64 k ∧ Hid (MKP w1 bm bz (tellR ((zs.take k).map Oz.o)) (tellR ((zs.take k).map Oz.o)) wr)) (fun i _ => zs.length - (intOf i).toNat)
  case atStart => exact ⟨0, Nat.zero_le _, rfl, HP0⟩
  case round =>
    clear HP0
    obtain ⟨k, hk, rfl, HP⟩ := hrel
    obtain ⟨wo, hwo⟩ : ∃ x : World, x = wr := ⟨_, rfl⟩
    subst hwo
    by_cases hlt : k < zs.length
    · obtain ⟨g1, o1, rfl, -, hcap, hmx, hbl, hat⟩ := HAT.out (by omega)
      clear hat
      have HLT := Lib.hid hlt
      have HBO := Lib.hid HP.out.bel
      have HTK := Lib.hid (tk_f HL.out HTM.out hk)
      have HTK1 := Lib.hid (tk_f HL.out HTM.out (k := k + 1) hlt)
      have HCPY := Lib.hid (copy_h ((one_part HX1.out hlt hcap).below HBO.out) (in_one HL.out hlt))
      have HRT := Lib.hid (fun y he h1 => told_ret (y := y) HTM.out hlt he h1)
      have HIT := Lib.hid (fun y he h1 => told_ins (y := y) HTM.out hlt he h1)
      have HDT := Lib.hid (fun y he h1 h2 => told_del (y := y) HTM.out hlt he h1 h2)
      have HSM := Lib.hid (fun y he => told_sm (y := y) HL.out hlt he)
      go_upto_region 10 with ((go_at_call 11; (with_reducible refine HCPY.out.mono ?_); rintro e wc ⟨ca, cn, cc, ys, rfl, hln, he, ho, hb⟩; go_loud (clear hln; obtain ⟨y, gu, uc, rfl, hyo, hv⟩ := own_single ho he; injection hv with v1 v2 v3; subst v1 v2 v3; have HMY := Lib.hid (my_start HP.out hb ho); have HYO := Lib.hid hyo; obtain ⟨⟨y0, y1, y2, y3, y4⟩, huc⟩ := one_at ho; clear hyo hb ho he HCPY HP)))
      have hyk := (show y.o = zs[k].o from HYO.out)
      obtain ⟨hsm, hyn, hyr⟩ := HSM.out y hyk
      have HRI := Lib.hid HTK.out.ri
      have hT := HL.out.rs
      have hzr := hsm.r
      have hzs := hsm.s
      have hzp := hsm.p
      clear hyk y0 y1 y2 y3 y4 huc
      go_upto_block 2 with fail
      go_cut [] from 32 to 234 (fun wx => Hid (MKP w1 bm bz (tellR ((zs.take (k + 1)).map Oz.o)) (tellR ((zs.take (k + 1)).map Oz.o)) wx))
      case first =>
        generalize hW4 : wc.alloc (.cells _ 34) = W4 at *
        clear hW4
        obtain ⟨y0, y1, y2, y3, y4⟩ := HMY.out.yb.at
        by_cases k1 : y.k = 1
        · have q1 : (y.k == 1) = true := by simpa using k1
          have HTL := Lib.hid (HRT.out y HYO.out k1)
          have HC1 := Lib.hid (y_retain k (sumR (zs.map Oz.o)) HMY.out HRI.out (by omega) (by omega) hsm hyn)
          clear HRT HIT HDT HSM HMY k1
          go_wp2_with (first
            | (go_at_call 18; (with_reducible refine HC1.out.mono ?_); rintro e w5 ⟨rfl, hm⟩; go_loud (clear y0 y1 y2 y3 y4; rw [HTL.out] at hm; have HM5 := Lib.hid hm.swap; have HC2 := Lib.hid (y_retain k (sumR (zs.map Oz.o)) HM5.out HRI.out (by omega) (by omega) hsm hyn); obtain ⟨y0, y1, y2, y3, y4⟩ := hm.yb.at; clear hm HC1))
            | (go_at_call 18; (with_reducible refine HC2.out.mono ?_); rintro e w6 ⟨rfl, hm⟩; go_loud (clear y0 y1 y2 y3 y4; rw [HTL.out] at hm; have HM6 := Lib.hid hm.swap; obtain ⟨y0, y1, y2, y3, y4⟩ := hm.yb.at; clear hm HC2 HM5))
            | (go_at_call 18; (with_reducible refine (retain_none _ _ _ _ _).mono ?_); rintro e w7 ⟨rfl, hb⟩; go_loud (clear y0 y1 y2 y3 y4; have HM7 := Lib.hid (HM6.out.below hb); obtain ⟨y0, y1, y2, y3, y4⟩ := HM7.out.yb.at; clear hb HM6)))
          have HW0 := Lib.hid (wr_start HM7.out.yb.row)
          go_loopw [77] (fun i wr => ∃ j : Nat, j ≤ y.pt.length ∧ i = .int .i64 j ∧ Hid (WrO w7 (.slice (some ⟨gu, 0, none⟩) 1 cc) [y] wr)) (fun i _ => y.pt.length - (intOf i).toNat)
          case atStart => exact ⟨0, Nat.zero_le _, rfl, HW0⟩
          case round =>
            clear HW0 y0 y1 y2 y3 y4
            obtain ⟨j, hj, rfl, HQ⟩ := hrel
            by_cases hjl : j < y.pt.length
            · obtain ⟨gz, hra, hcz, hnum⟩ := HQ.out.p y (by simp) j hjl
              have HJL := Lib.hid hjl
              have HNX := Lib.hid (HQ.out.set hnum (sb_p (by simp) hra) (-1))
              obtain ⟨⟨vz, hvz⟩, hfz⟩ := hnum
              obtain ⟨-, -, y2, y3, y4⟩ := HM7.out.yb.kept HQ.out
              rw [hra] at y4
              clear hra y2 y3
              go_wp2
              go_roundw
              case rel => exact ⟨j + 1, HJL.out, by go_num, HNX⟩
              case measure => have := HJL.out; simp [intOf]; omega
            · obtain rfl : j = y.pt.length := by omega
              obtain ⟨-, -, y2, y3, y4⟩ := HM7.out.yb.kept HQ.out
              clear hj hjl
              go_wp2
              go_meet
              exact Lib.hid (HM7.out.wrote HQ.out HBO.out.size)
        · have q1 : (y.k == 1) = false := by simpa using k1
          by_cases k2 : y.k = 2
          · have q2 : (y.k == 2) = true := by simpa using k2
            have HTL := Lib.hid (HIT.out y HYO.out k2)
            have HC1 := Lib.hid (y_insert k (sumR (zs.map Oz.o)) HMY.out HRI.out (by omega) (by omega) hsm)
            clear HRT HIT HDT HSM HMY k1 k2
            go_wp2_with (first
              | (go_at_call 19; (with_reducible refine HC1.out.mono ?_); rintro e w5 ⟨rfl, hm⟩; go_loud (clear y0 y1 y2 y3 y4; rw [HTL.out] at hm; have HM5 := Lib.hid hm.swap; have HC2 := Lib.hid (y_insert k (sumR (zs.map Oz.o)) HM5.out HRI.out (by omega) (by omega) hsm); obtain ⟨y0, y1, y2, y3, y4⟩ := hm.yb.at; clear hm HC1))
              | (go_at_call 19; (with_reducible refine HC2.out.mono ?_); rintro e w6 ⟨rfl, hm⟩; go_loud (clear y0 y1 y2 y3 y4; rw [HTL.out] at hm; have HM6 := Lib.hid hm.swap; obtain ⟨y0, y1, y2, y3, y4⟩ := hm.yb.at; clear hm HC2 HM5))
              | (go_at_call 19; (with_reducible refine (insertM_none _ _ _ _ _ _ _).mono ?_); rintro e w7 ⟨rfl, hb⟩; go_loud (clear y0 y1 y2 y3 y4; have HM7 := Lib.hid (HM6.out.below hb); obtain ⟨y0, y1, y2, y3, y4⟩ := HM7.out.yb.at; clear hb HM6)))
            have HW0 := Lib.hid (wr_start HM7.out.yb.row)
            go_loopw [108] (fun i wr => ∃ j : Nat, j ≤ y.rs.length ∧ i = .int .i64 j ∧ Hid (WrO w7 (.slice (some ⟨gu, 0, none⟩) 1 cc) [y] wr)) (fun i _ => y.rs.length - (intOf i).toNat)
            case atStart => exact ⟨0, Nat.zero_le _, rfl, HW0⟩
            case round =>
              clear HW0 y0 y1 y2 y3 y4
              obtain ⟨j, hj, rfl, HQ1⟩ := hrel
              by_cases hjl : j < y.rs.length
              · obtain ⟨gz, hra, hcz, hnum⟩ := HQ1.out.r y (by simp) j hjl
                have HJL := Lib.hid hjl
                have HNX := Lib.hid (HQ1.out.set hnum (sb_r (by simp) hra) (-1))
                obtain ⟨⟨vz, hvz⟩, hfz⟩ := hnum
                obtain ⟨-, -, y2, y3, y4⟩ := HM7.out.yb.kept HQ1.out
                rw [hra] at y2
                clear hra y3 y4
                go_wp2
                go_roundw
                case rel => exact ⟨j + 1, HJL.out, by go_num, HNX⟩
                case measure => have := HJL.out; simp [intOf]; omega
              · obtain rfl : j = y.rs.length := by omega
                obtain ⟨-, -, y2, y3, y4⟩ := HM7.out.yb.kept HQ1.out
                clear hj hjl
                go_wp2
                go_loopw [119] (fun i wr => ∃ j : Nat, j ≤ y.st.length ∧ i = .int .i64 j ∧ Hid (WrO w7 (.slice (some ⟨gu, 0, none⟩) 1 cc) [y] wr)) (fun i _ => y.st.length - (intOf i).toNat)
                case atStart => exact ⟨0, Nat.zero_le _, rfl, HQ1⟩
                case round =>
                  clear HQ1 y2 y3 y4
                  obtain ⟨j, hj, rfl, HQ⟩ := hrel
                  by_cases hjl : j < y.st.length
                  · obtain ⟨gz, hra, hcz, hnum⟩ := HQ.out.s y (by simp) j hjl
                    have HJL := Lib.hid hjl
                    have HNX := Lib.hid (HQ.out.set hnum (sb_s (by simp) hra) (-1))
                    obtain ⟨⟨vz, hvz⟩, hfz⟩ := hnum
                    obtain ⟨-, -, y2, y3, y4⟩ := HM7.out.yb.kept HQ.out
                    rw [hra] at y3
                    clear hra y2 y4
                    go_wp2
                    go_roundw
                    case rel => exact ⟨j + 1, HJL.out, by go_num, HNX⟩
                    case measure => have := HJL.out; simp [intOf]; omega
                  · obtain rfl : j = y.st.length := by omega
                    obtain ⟨-, -, y2, y3, y4⟩ := HM7.out.yb.kept HQ.out
                    clear hj hjl
                    go_wp2
                    go_meet
                    exact Lib.hid (HM7.out.wrote HQ.out HBO.out.size)
          · have q2 : (y.k == 2) = false := by simpa using k2
            have HTL := Lib.hid (HDT.out y HYO.out k1 k2)
            have HC1 := Lib.hid (y_delete k (sumR (zs.map Oz.o)) HMY.out HRI.out (by omega) (by omega) hyn)
            clear HRT HIT HDT HSM HMY k1 k2
            go_wp2_with (first
              | (go_at_call 20; (with_reducible refine HC1.out.mono ?_); rintro e w5 ⟨rfl, hm⟩; go_loud (clear y0 y1 y2 y3 y4; rw [HTL.out] at hm; have HM5 := Lib.hid hm.swap; have HC2 := Lib.hid (y_delete k (sumR (zs.map Oz.o)) HM5.out HRI.out (by omega) (by omega) hyn); obtain ⟨y0, y1, y2, y3, y4⟩ := hm.yb.at; clear hm HC1))
              | (go_at_call 20; (with_reducible refine HC2.out.mono ?_); rintro e w6 ⟨rfl, hm⟩; go_loud (clear y0 y1 y2 y3 y4; rw [HTL.out] at hm; have HM6 := Lib.hid hm.swap; obtain ⟨y0, y1, y2, y3, y4⟩ := hm.yb.at; clear hm HC2 HM5))
              | (go_at_call 20; (with_reducible refine (deleteM_none _ _).mono ?_); rintro e w7 ⟨rfl, hb⟩; go_loud (clear y0 y1 y2 y3 y4; have HM7 := Lib.hid (HM6.out.below hb); obtain ⟨y0, y1, y2, y3, y4⟩ := HM7.out.yb.at; clear hb HM6)))
            go_meet
            exact Lib.hid HM7.out.kp
      case rest =>
        clear HRT HIT HDT HSM HMY HYO HRI HTK hsm hyn hyr hzr hzs hzp hk
        have HRI1 := Lib.hid HTK1.out.ri
        have HA1 := Lib.hid (k_retain (k + 1) (sumR (zs.map Oz.o)) hcut.out HRI1.out (by omega) (by omega))
        have HHD := Lib.hid (HX1.out.head (hi := k + 1) hlt)
        clear hcut
        go_wp2_with (first
          | (go_at_call 18; (with_reducible refine HA1.out.mono ?_); rintro e w2 ⟨rfl, hm⟩; go_loud (have HA2 := Lib.hid (k_insert (k + 1) (sumR (zs.map Oz.o)) hm HRI1.out (by omega) (by omega)); clear hm HA1))
          | (go_at_call 19; (with_reducible refine HA2.out.mono ?_); rintro e w3 ⟨rfl, hm⟩; go_loud (have HA3 := Lib.hid (k_delete (k + 1) (sumR (zs.map Oz.o)) hm HRI1.out (by omega) (by omega)); clear hm HA2))
          | (go_at_call 20; (with_reducible refine HA3.out.mono ?_); rintro e w4 ⟨rfl, hm⟩; go_loud (have HM4 := Lib.hid hm; have HO4 := Lib.hid (k_ops hm HTK1.out); clear hm HA3))
          | (go_at_call 21; (with_reducible refine HO4.out.mono ?_); rintro e w5 ⟨ga, gn, gc, ys, rfl, hyl, hye, hyo, hb⟩; go_loud (have HYL := Lib.hid hyl; have HYE := Lib.hid hye; have HGW := Lib.hid hyo; have HB45 := Lib.hid hb; have HRO := Lib.hid (rof_any _ _ _ (HHD.out.below ((HM4.out.below hb).bel)) HTK1.out.li HTK1.out.tm); clear hyl hye hyo hb HO4))
          | (go_at_call 15; (with_reducible refine HRO.out.mono ?_); rintro e w6 ⟨v6, ys6, rfl, he6, ho6, hb⟩; go_loud (have HB46 := Lib.hid (below_add HB45.out hb HB45.out.size); have HB56 := Lib.hid hb; have HS6 := Lib.hid (rsame_yes (HGW.out.orow.below hb) ho6.orow (by rw [HYE.out, he6])); clear he6 ho6 hb HRO))
          | (go_at_call 14; (with_reducible refine HS6.out.mono ?_); rintro e w7 ⟨rfl, hb⟩; go_loud (have HB47 := Lib.hid (below_add HB46.out hb HB46.out.size); have HB57 := Lib.hid (below_add HB56.out hb HB56.out.size); have HO7 := Lib.hid (k_ops (HM4.out.below HB47.out).swap HTK1.out); clear hb HS6 HB46 HB56))
          | (go_at_call 21; (with_reducible refine HO7.out.mono ?_); rintro e w8 ⟨za, zn, zc, ys8, rfl, -, he8, ho8, hb⟩; go_loud (have HB48 := Lib.hid (below_add HB47.out hb HB47.out.size); have HB58 := Lib.hid (below_add HB57.out hb HB57.out.size); have HS8 := Lib.hid (rsame_yes ho8.orow (HGW.out.orow.below HB58.out) (by rw [HYE.out, he8])); clear he8 ho8 hb HO7 HB47 HB57))
          | (go_at_call 14; (with_reducible refine HS8.out.mono ?_); rintro e w9 ⟨rfl, hb⟩; go_loud (have HB49 := Lib.hid (below_add HB48.out hb HB48.out.size); have HB59 := Lib.hid (below_add HB58.out hb HB58.out.size); clear hb HS8 HB48 HB58))
          | (go_at_call 21; (with_reducible refine (mops_none _).mono ?_); rintro e w10 ⟨rfl, hw⟩; subst hw))
        have HWR := Lib.hid (wr_start (HGW.out.below HB59.out))
        have HSB := Lib.hid (fun k (hk : Sb (.slice ga gn gc) ys k) => sb_own HGW.out hk)
        have HYI := Lib.hid (fun z (hz : z ∈ ys) => show Sm z from sm_form HTK1.out HYE.out hz)
        have hgl : gn ≤ 16777216 := by rw [← HYL.out]; exact len_form HTK1.out HYE.out
        clear HB59 HTK1 HYE HRI1 HHD
        go_loopw [158] (fun i wr => ∃ q : Nat, q ≤ gn ∧ i = .int .i64 q ∧ Hid (WrO w10 (.slice ga gn gc) ys wr)) (fun i _ => gn - (intOf i).toNat)
        case atStart => exact ⟨0, Nat.zero_le _, rfl, HWR⟩
        case round =>
          clear HWR
          obtain ⟨q, hq, rfl, HP⟩ := hrel
          obtain ⟨wq, hwq⟩ : ∃ x : World, x = wr := ⟨_, rfl⟩
          subst hwq
          by_cases hql : q < gn
          · have hlt2 : q < ys.length := by rw [HYL.out]; exact hql
            have HLQ := Lib.hid hql
            obtain ⟨g3, cc3, e, -, -, -, -⟩ := HP.out.row q hlt2
            injection e with e1 e2 e3
            subst e1 e3
            have hcc : gn ≤ gc := by
              obtain ⟨a9, c9, e9, -, h9⟩ := HGW.out.shape
              injection e9 with _ e9 e10
              subst e9 e10
              exact h9
            have HZM := Lib.hid (List.getElem_mem hlt2)
            have HROW := Lib.hid (fun W (h : WrO w10 (.slice (some ⟨g3, 0, none⟩) gn gc) ys W) => h.at hlt2)
            clear e2
            generalize ys[q] = z at *
            have hzr := (HYI.out z HZM.out).r
            have hzs := (HYI.out z HZM.out).s
            have hzp := (HYI.out z HZM.out).p
            obtain ⟨m2, m3, m4, -⟩ := HROW.out wq HP.out
            clear m3 m4
            go_wp2
            go_loopw [167] (fun i wr => ∃ j : Nat, j ≤ z.rs.length ∧ i = .int .i64 j ∧ Hid (WrO w10 (.slice (some ⟨g3, 0, none⟩) gn gc) ys wr)) (fun i _ => z.rs.length - (intOf i).toNat)
            case atStart => exact ⟨0, Nat.zero_le _, rfl, HP⟩
            case round =>
              clear HP m2
              obtain ⟨j, hj, rfl, HQ1⟩ := hrel
              by_cases hjl : j < z.rs.length
              · obtain ⟨gz, hra, hcz, hnum⟩ := HQ1.out.r z HZM.out j hjl
                have HJL := Lib.hid hjl
                have HNX := Lib.hid (fun u => HQ1.out.set hnum (sb_r HZM.out hra) u)
                obtain ⟨⟨vz, hvz⟩, hfz⟩ := hnum
                obtain ⟨m2, m3, m4, -⟩ := HROW.out wr HQ1.out
                rw [hra] at m2
                clear hra m3 m4
                go_wp2
                go_roundw
                case rel => exact ⟨j + 1, HJL.out, by go_num, Lib.hid (HNX.out _)⟩
                case measure => have := HJL.out; simp [intOf]; omega
              · obtain rfl : j = z.rs.length := by omega
                obtain ⟨m2, m3, m4, m1⟩ := HROW.out wr HQ1.out
                clear hj hjl
                clear m1
                go_wp2
                go_loopw [187] (fun i wr => ∃ j : Nat, j ≤ z.pt.length ∧ i = .int .i64 j ∧ Hid (WrO w10 (.slice (some ⟨g3, 0, none⟩) gn gc) ys wr)) (fun i _ => z.pt.length - (intOf i).toNat)
                case atStart => exact ⟨0, Nat.zero_le _, rfl, HQ1⟩
                case round =>
                  clear HQ1 m2 m3 m4
                  obtain ⟨j, hj, rfl, HQ2⟩ := hrel
                  by_cases hjl : j < z.pt.length
                  · obtain ⟨gz, hra, hcz, hnum⟩ := HQ2.out.p z HZM.out j hjl
                    have HJL := Lib.hid hjl
                    have HNX := Lib.hid (fun u => HQ2.out.set hnum (sb_p HZM.out hra) u)
                    obtain ⟨⟨vz, hvz⟩, hfz⟩ := hnum
                    obtain ⟨m2, m3, m4, -⟩ := HROW.out wr HQ2.out
                    rw [hra] at m4
                    clear hra m2 m3
                    go_wp2
                    go_roundw
                    case rel => exact ⟨j + 1, HJL.out, by go_num, Lib.hid (HNX.out _)⟩
                    case measure => have := HJL.out; simp [intOf]; omega
                  · obtain rfl : j = z.pt.length := by omega
                    obtain ⟨m2, m3, m4, m1⟩ := HROW.out wr HQ2.out
                    clear hj hjl
                    clear m1
                    go_wp2
                    go_loopw [209] (fun i wr => ∃ j : Nat, j ≤ z.st.length ∧ i = .int .i64 j ∧ Hid (WrO w10 (.slice (some ⟨g3, 0, none⟩) gn gc) ys wr)) (fun i _ => z.st.length - (intOf i).toNat)
                    case atStart => exact ⟨0, Nat.zero_le _, rfl, HQ2⟩
                    case round =>
                      clear HQ2 m2 m3 m4
                      obtain ⟨j, hj, rfl, HQ3⟩ := hrel
                      by_cases hjl : j < z.st.length
                      · obtain ⟨gz, hra, hcz, hnum⟩ := HQ3.out.s z HZM.out j hjl
                        have HJL := Lib.hid hjl
                        have HNX := Lib.hid (fun u => HQ3.out.set hnum (sb_s HZM.out hra) u)
                        obtain ⟨⟨vz, hvz⟩, hfz⟩ := hnum
                        obtain ⟨m2, m3, m4, -⟩ := HROW.out wr HQ3.out
                        rw [hra] at m3
                        clear hra m2 m4
                        go_wp2
                        go_roundw
                        case rel => exact ⟨j + 1, HJL.out, by go_num, Lib.hid (HNX.out _)⟩
                        case measure => have := HJL.out; simp [intOf]; omega
                      · obtain rfl : j = z.st.length := by omega
                        obtain ⟨m2, m3, m4, m1⟩ := HROW.out wr HQ3.out
                        clear hj hjl
                        have HNX := Lib.hid (fun u => HQ3.out.set m1 (.inl rfl) u)
                        obtain ⟨⟨vz, hvz⟩, hfz⟩ := m1
                        clear m2 m3 m4
                        go_wp2
                        go_roundw
                        case rel => exact ⟨q + 1, HLQ.out, by go_num, Lib.hid (HNX.out _)⟩
                        case measure => have := HLQ.out; simp [intOf]; omega
          · obtain rfl : q = gn := by omega
            have HME := Lib.hid (HM4.out.wroteB HB49.out HP.out (fun k hk => HSB.out k hk))
            clear hq hql HSB HM4 HGW HP HYI
            go_wp2
            go_roundw
            case rel => exact ⟨k + 1, HLT.out, by go_num, HME⟩
            case measure => have := HLT.out; simp [intOf]; omega
    · obtain rfl : k = zs.length := by omega
      have HTF := Lib.hid (tk_f HL.out HTM.out (Nat.le_refl zs.length))
      have HOE := Lib.hid (k_ops HP.out HTF.out)
      have HB2 := Lib.hid (below_add HB1.out HP.out.bel HB1.out.size)
      clear HP HAT hk hlt HX1
      go_wp2_with (first
        | (go_at_call 21; (with_reducible refine HOE.out.mono ?_); rintro e w3 ⟨a3, n3, c3, ys3, rfl, -, he3, ho3, hb⟩; go_loud (have HB3 := Lib.hid (below_add HB2.out hb HB2.out.size); rw [List.take_length] at he3; have HE3 := Lib.hid he3; have HO3 := Lib.hid ho3; have HRO := Lib.hid (rof_any _ zs _ (HX.out _ HB3.out) HL.out HTM.out); clear he3 ho3 hb HOE))
        | (go_at_call 15; (with_reducible refine HRO.out.mono ?_); rintro e w4 ⟨v4, ys4, rfl, he4, ho4, hb⟩; go_loud (have HB4 := Lib.hid (below_add HB3.out hb HB3.out.size); have HS4 := Lib.hid (rsame_yes (HO3.out.orow.below hb) ho4.orow (by rw [HE3.out, he4])); clear he4 ho4 hb HRO))
        | (go_at_call 14; (with_reducible refine HS4.out.mono ?_); rintro e w5 ⟨rfl, hb⟩; have HB5 := Lib.hid (below_add HB4.out hb HB4.out.size); clear hb HS4)
        | (go_at_call 13; (with_reducible refine (HK.out _).mono ?_); rintro e w99 ⟨rfl, hb⟩; have HB99 := Lib.hid (below_add HB5.out hb HB5.out.size); clear hb))
      go_ret
      exact ⟨rfl, HB99.out⟩
end Go.Proofs.Ytnggnfhaokkcmaa
