
import Derived.Test.YtnggnfhaokkcmaaN33
/- N34: NormalForms -/
namespace Go.Proofs.Ytnggnfhaokkcmaa
open Go.RowKit
set_option linter.unusedVariables false
set_option maxRecDepth 100000

theorem WrO.at {W0 W : World} {g n c : Nat} {ys : List Oz} (h : WrO W0 (.slice (some ⟨g, 0, none⟩) n c) ys W) {j : Nat} (hj : j < ys.length) : W.cell? ⟨g, j * 5 + 2, none⟩ = some (.slice ys[j].ra ys[j].rs.length ys[j].rc) ∧ W.cell? ⟨g, j * 5 + 3, none⟩ = some (.slice ys[j].sa ys[j].st.length ys[j].sc) ∧ W.cell? ⟨g, j * 5 + 4, none⟩ = some (.slice ys[j].pa ys[j].pt.length ys[j].pc) ∧ NumAt .i64 W ⟨g, j * 5 + 1, none⟩ := by
  obtain ⟨g2, c2, e, h1, h2, h3, h4⟩ := h.row j hj
  injection e with e1 e2 e3
  injection e1 with e1
  injection e1 with e1 _
  subst e1
  exact ⟨h1, h2, h3, h4⟩
/-- What Of told of a copy. -/
theorem of_copy {u : Value} {zs ins : List Oz} {w : World} (hx : Orow w u ins) (hi : In zs) (ht : Tame zs) (he : ins.map Oz.o = zs.map Oz.o) :
    Calls Try.prog 10 #[u] w fun e w' => ∃ a n c ys, e = .returned (.slice a n c) ∧ ys.length = n ∧ Told ins ys ∧ Oown (fun g => w.heap.size ≤ g) w' (.slice a n c) ys ∧ Below w.heap.size w w' := by
  refine (of_h hx (in_o he hi) (tame_o he ht)).mono fun e w' ⟨a, c, ys, h1, h2, h3, h4⟩ => ⟨a, _, c, ys, h1, rfl, h2, h3, h4⟩
theorem rsame_yes {u v : Value} {ys zs : List Oz} {w : World} (hu : Orow w u ys) (hv : Orow w v zs) (h : ys.map Oz.o = zs.map Oz.o) :
    Calls Try.prog 14 #[u, v] w fun e w' => e = .returned (.bool true) ∧ Below w.heap.size w w' := by
  have := rosame_any u v ys zs w hu hv
  rwa [decide_eq_true h] at this
theorem is_f {u : Value} {zs ins ys : List Oz} {w : World} (hx : Orow w u ins) (ht : Tame zs) (he : ins.map Oz.o = zs.map Oz.o) {b : Bool} (hb : decide (formO (zs.map Oz.o) = zs.map Oz.o) = b) :
    Calls Try.prog 12 #[u] w fun e w' => e = .returned (.bool b) ∧ Below w.heap.size w w' := by
  refine (is_any u ins w hx).mono fun e w' ⟨⟨b2, h1, h2⟩, hB⟩ => ⟨?_, hB⟩
  rw [he, normal_iff ht.tm] at h2
  have : b2 = b := by
    rw [← hb]
    by_cases h : formO (zs.map Oz.o) = zs.map Oz.o
    · rw [decide_eq_true h]; exact h2.2 h
    · rw [decide_eq_false h]; cases b2
      · rfl
      · exact absurd (h2.1 rfl) h
  rw [h1, this]
theorem is_yes {u : Value} {zs ys : List Oz} {w : World} (hx : Orow w u ys) (h : Told zs ys) :
    Calls Try.prog 12 #[u] w fun e w' => e = .returned (.bool true) ∧ Below w.heap.size w w' := by
  refine (is_any u ys w hx).mono fun e w' ⟨⟨b2, h1, h2⟩, hB⟩ => ⟨?_, hB⟩
  rw [h1, h2.2 h.norm]

set_option maxHeartbeats 8000000 in
theorem forms_walk (b0 : Option Addr) (len0 cap0 : Nat) (ks : List Key) (b1 : Option Addr) (len1 cap1 : Nat) (zs : List Oz) (w : World) (hk : Krow w (.slice b0 len0 cap0) ks) (hx : Orow w (.slice b1 len1 cap1) zs) (hW : ∀ z ∈ zs, OpW z) (hz : totO zs ≤ 1048576) :
    Calls Try.prog 3 #[.slice b0 len0 cap0, .slice b1 len1 cap1] w fun e w' => e = .returned (.bool true) ∧ Below w.heap.size w w' := by
  have HT := Lib.hid (tame_h hk hx hW hz)
  have HL := Lib.hid (law_in hW hz)
  have HK := Lib.hid (fun W => known16_any W)
  have HX := Lib.hid (fun W (hb : Below w.heap.size w W) => hx.below hb)
  have HSZ := Lib.hid (fun W (hb : Below w.heap.size w W) => size_any _ zs W (hx.below hb))
  have HCP := Lib.hid (fun W (hb : Below w.heap.size w W) => copy_h (hx.below hb) HL.out.i)
  have HIS := Lib.hid (fun W (hb : Below w.heap.size w W) => is_any _ zs W (hx.below hb))
  clear hk hx hW hz
  go_enter Try.func3, Try.ntmps3
  go_wp2_with fail
  go_at_call 8
  refine HT.out.mono ?_
  rintro e w1 ⟨⟨b, rfl, hb⟩, hB⟩
  have HB1 := Lib.hid hB
  cases b
  · clear hb hB HT
    have HSZ1 := Lib.hid (HSZ.out _ HB1.out)
    go_wp2_with (first
      | (go_at_call 9; (with_reducible refine HSZ1.out.mono ?_); rintro e w2 ⟨⟨n, rfl⟩, hb⟩; have HB2 := Lib.hid (below_add HB1.out hb HB1.out.size); clear hb))
    · have HCP2 := Lib.hid (HCP.out _ HB2.out)
      go_wp2_with (first
        | (go_at_call 11; (with_reducible refine HCP2.out.mono ?_); rintro e w3 ⟨a3, n3, c3, ys3, rfl, hl3, he3, ho3, hb⟩; have HB3 := Lib.hid (below_add HB2.out hb HB2.out.size); have HOF := Lib.hid (of_any _ ys3 _ ho3.orow (in_o he3 HL.out.i)); clear hl3 he3 ho3 hb)
        | (go_at_call 10; (with_reducible refine HOF.out.mono ?_); rintro e w4 ⟨v4, ys4, rfl, -, -, hb⟩; have HB4 := Lib.hid (below_add HB3.out hb HB3.out.size); have HIS4 := Lib.hid (HIS.out _ HB4.out); clear hb)
        | (go_at_call 12; (with_reducible refine HIS4.out.mono ?_); rintro e w5 ⟨⟨b5, rfl, -⟩, hb⟩; have HB5 := Lib.hid (below_add HB4.out hb HB4.out.size); clear hb)
        | (go_at_call 13; (with_reducible refine (HK.out _).mono ?_); rintro e w99 ⟨rfl, hb⟩; have HB99 := Lib.hid (below_add HB5.out hb HB5.out.size); clear hb))
      refine bodyPost_ret (results_tmp rfl _ _ _) (by rfl) ?_
      exact ⟨rfl, HB99.out⟩
    go_wp2_with (first
      | (go_at_call 13; (with_reducible refine (HK.out _).mono ?_); rintro e w99 ⟨rfl, hb⟩; have HB99 := Lib.hid (below_add HB2.out hb HB2.out.size); clear hb))
    refine bodyPost_ret (results_tmp rfl _ _ _) (by rfl) ?_
    exact ⟨rfl, HB99.out⟩
  have HTM := Lib.hid (tame_yes (hb rfl) HL.out.len)
  clear hb hB HT HSZ HIS
  obtain ⟨bb, hbb⟩ : ∃ b, decide (formO (zs.map Oz.o) = zs.map Oz.o) = b := ⟨_, rfl⟩
  have HBB := Lib.hid hbb
  have HRO := Lib.hid (fun W (hb : Below w.heap.size w W) => rof_any _ zs W (HX.out W hb) HL.out HTM.out)
  have HRI := Lib.hid (fun W (hb : Below w.heap.size w W) => ris_any _ zs W (HX.out W hb) HL.out HTM.out)
  rw [hbb] at HRI
  clear hbb
  have HCP1 := Lib.hid (HCP.out _ HB1.out)
  go_wp2_with (first
    | (go_at_call 11; (with_reducible refine HCP1.out.mono ?_); rintro e w2 ⟨a2, n2, c2, ins, rfl, hl2, he2, ho2, hb⟩; have HB2 := Lib.hid (below_add HB1.out hb HB1.out.size); have HIO := Lib.hid he2; have HIW := Lib.hid ho2; have HOF := Lib.hid (of_copy ho2.orow HL.out.i HTM.out he2); clear hl2 he2 ho2 hb)
    | (go_at_call 10; (with_reducible refine HOF.out.mono ?_); rintro e w3 ⟨a3, n3, c3, ys, rfl, hl3, ht3, ho3, hb⟩; have HB3 := Lib.hid (below_add HB2.out hb HB2.out.size); have HTD := Lib.hid ht3; have HGW := Lib.hid ho3; have HB23 := Lib.hid hb; have HYL := Lib.hid hl3; have HRO3 := Lib.hid (HRO.out _ HB3.out); clear hl3 ht3 ho3 hb)
    | (go_at_call 15; (with_reducible refine HRO3.out.mono ?_); rintro e w4 ⟨v4, ys4, rfl, he4, ho4, hb⟩; have HB4 := Lib.hid (below_add HB3.out hb HB3.out.size); have HB24 := Lib.hid (below_add HB23.out hb HB23.out.size); have HS5 := Lib.hid (rsame_yes (HGW.out.orow.below hb) ho4.orow (by rw [he4, HTD.out.e, HIO.out])); have HB34 := Lib.hid hb; clear he4 ho4 hb)
    | (go_at_call 14; (with_reducible refine HS5.out.mono ?_); rintro e w5 ⟨rfl, hb⟩; have HB5 := Lib.hid (below_add HB4.out hb HB4.out.size); have HB25 := Lib.hid (below_add HB24.out hb HB24.out.size); have HB35 := Lib.hid (below_add HB34.out hb HB34.out.size); have HI5 := Lib.hid (is_f (ys := ys) (HIW.out.orow.below HB25.out) HTM.out HIO.out HBB.out); clear hb)
    | (go_at_call 12; (with_reducible refine HI5.out.mono ?_); rintro e w6 ⟨rfl, hb⟩; have HB6 := Lib.hid (below_add HB5.out hb HB5.out.size); have HB26 := Lib.hid (below_add HB25.out hb HB25.out.size); have HB36 := Lib.hid (below_add HB35.out hb HB35.out.size); have HRI6 := Lib.hid (HRI.out _ HB6.out); clear hb)
    | (go_at_call 16; (with_reducible refine HRI6.out.mono ?_); rintro e w7 ⟨rfl, hb⟩; have HB7 := Lib.hid (below_add HB6.out hb HB6.out.size); have HB27 := Lib.hid (below_add HB26.out hb HB26.out.size); have HB37 := Lib.hid (below_add HB36.out hb HB36.out.size); have HI7 := Lib.hid (is_yes (HGW.out.orow.below HB37.out) HTD.out); clear hb)
    | (go_at_call 12; (with_reducible refine HI7.out.mono ?_); rintro e w8 ⟨rfl, hb⟩; have HB8 := Lib.hid (below_add HB7.out hb HB7.out.size); have HB28 := Lib.hid (below_add HB27.out hb HB27.out.size); have HB38 := Lib.hid (below_add HB37.out hb HB37.out.size); clear hb))
  have HWR := Lib.hid (wr_start (HGW.out.below HB38.out))
  have HSB := Lib.hid (fun k (hk : Sb (.slice a3 n3 c3) ys k) => sb_own HGW.out hk)
  have HTDL := HTD.out.i.len
  clear HRO HRI HCP HBB HB34 HB24 HB25 HB35 HB26 HB36 HB27 HB37 HB4 HB5 HB6 HB7
  go_loopw [47] (fun i wr => ∃ k : Nat, k ≤ n3 ∧ i = .int .i64 k ∧ Hid (WrO w8 (.slice a3 n3 c3) ys wr)) (fun i _ => n3 - (intOf i).toNat)
  case atStart => exact ⟨0, Nat.zero_le _, rfl, HWR⟩
  case round =>
    clear HWR
    obtain ⟨k, hk, rfl, HP⟩ := hrel
    obtain ⟨wo, hwo⟩ : ∃ x : World, x = wr := ⟨_, rfl⟩
    subst hwo
    by_cases hlt : k < n3
    · have hlt2 : k < ys.length := by rw [HYL.out]; exact hlt
      have HLT := Lib.hid hlt
      obtain ⟨g3, cc3, e, -, -, -, -⟩ := HP.out.row k hlt2
      injection e with e1 e2 e3
      subst e1 e3
      have hcc : n3 ≤ c3 := by
        obtain ⟨a9, c9, e9, -, h9⟩ := HGW.out.shape
        injection e9 with _ e9 e10
        subst e9 e10
        exact h9
      have HZM := Lib.hid (List.getElem_mem hlt2)
      have HROW := Lib.hid (fun W (h : WrO w8 (.slice (some ⟨g3, 0, none⟩) n3 c3) ys W) => h.at hlt2)
      clear e2
      generalize ys[k] = z at *
      have hzr := (HTD.out.i.sm z HZM.out).r
      have hzs := (HTD.out.i.sm z HZM.out).s
      have hzp := (HTD.out.i.sm z HZM.out).p
      obtain ⟨m2, m3, m4, -⟩ := HROW.out wo HP.out
      clear m3 m4
      go_wp2
      go_loopw [56] (fun i wr => ∃ j : Nat, j ≤ z.rs.length ∧ i = .int .i64 j ∧ Hid (WrO w8 (.slice (some ⟨g3, 0, none⟩) n3 c3) ys wr)) (fun i _ => z.rs.length - (intOf i).toNat)
      case atStart => exact ⟨0, Nat.zero_le _, rfl, HP⟩
      case round =>
        clear HP m2
        obtain ⟨j, hj, rfl, HQ1⟩ := hrel
        by_cases hjl : j < z.rs.length
        · obtain ⟨gz, hra, hcz, hnum⟩ := HQ1.out.r z HZM.out j hjl
          have HJL := Lib.hid hjl
          have HNX := Lib.hid (fun u => HQ1.out.set hnum (sb_r HZM.out hra) u)
          obtain ⟨⟨vz, hvz⟩, hfz⟩ := hnum
          obtain ⟨m2, m3, m4, -⟩ := HROW.out wr HQ1.out
          rw [hra] at m2
          clear hra m3 m4
          go_wp2
          go_roundw
          case rel => exact ⟨j + 1, HJL.out, by go_num, Lib.hid (HNX.out _)⟩
          case measure => have := HJL.out; simp [intOf]; omega
        · obtain rfl : j = z.rs.length := by omega
          obtain ⟨m2, m3, m4, -⟩ := HROW.out wr HQ1.out
          clear hj hjl
          go_wp2
          go_loopw [76] (fun i wr => ∃ j : Nat, j ≤ z.st.length ∧ i = .int .i64 j ∧ Hid (WrO w8 (.slice (some ⟨g3, 0, none⟩) n3 c3) ys wr)) (fun i _ => z.st.length - (intOf i).toNat)
          case atStart => exact ⟨0, Nat.zero_le _, rfl, HQ1⟩
          case round =>
            clear HQ1 m2 m3 m4
            obtain ⟨j, hj, rfl, HQ2⟩ := hrel
            by_cases hjl : j < z.st.length
            · obtain ⟨gz, hra, hcz, hnum⟩ := HQ2.out.s z HZM.out j hjl
              have HJL := Lib.hid hjl
              have HNX := Lib.hid (fun u => HQ2.out.set hnum (sb_s HZM.out hra) u)
              obtain ⟨⟨vz, hvz⟩, hfz⟩ := hnum
              obtain ⟨m2, m3, m4, -⟩ := HROW.out wr HQ2.out
              rw [hra] at m3
              clear hra m2 m4
              go_wp2
              go_roundw
              case rel => exact ⟨j + 1, HJL.out, by go_num, Lib.hid (HNX.out _)⟩
              case measure => have := HJL.out; simp [intOf]; omega
            · obtain rfl : j = z.st.length := by omega
              obtain ⟨m2, m3, m4, -⟩ := HROW.out wr HQ2.out
              clear hj hjl
              go_wp2
              go_loopw [98] (fun i wr => ∃ j : Nat, j ≤ z.pt.length ∧ i = .int .i64 j ∧ Hid (WrO w8 (.slice (some ⟨g3, 0, none⟩) n3 c3) ys wr)) (fun i _ => z.pt.length - (intOf i).toNat)
              case atStart => exact ⟨0, Nat.zero_le _, rfl, HQ2⟩
              case round =>
                clear HQ2 m2 m3 m4
                obtain ⟨j, hj, rfl, HQ3⟩ := hrel
                by_cases hjl : j < z.pt.length
                · obtain ⟨gz, hra, hcz, hnum⟩ := HQ3.out.p z HZM.out j hjl
                  have HJL := Lib.hid hjl
                  have HNX := Lib.hid (fun u => HQ3.out.set hnum (sb_p HZM.out hra) u)
                  obtain ⟨⟨vz, hvz⟩, hfz⟩ := hnum
                  obtain ⟨m2, m3, m4, -⟩ := HROW.out wr HQ3.out
                  rw [hra] at m4
                  clear hra m2 m3
                  go_wp2
                  go_roundw
                  case rel => exact ⟨j + 1, HJL.out, by go_num, Lib.hid (HNX.out _)⟩
                  case measure => have := HJL.out; simp [intOf]; omega
                · obtain rfl : j = z.pt.length := by omega
                  obtain ⟨m2, m3, m4, -⟩ := HROW.out wr HQ3.out
                  clear hj hjl
                  go_wp2
                  go_roundw
                  case rel => exact ⟨k + 1, HLT.out, by go_num, HQ3⟩
                  case measure => have := HLT.out; simp [intOf]; omega
    · obtain rfl : k = n3 := by omega
      have HBW := Lib.hid (show Below w2.heap.size w2 wo from HB28.out.trans (HP.out.off.below (fun k hk => HSB.out k hk) HB28.out.size))
      have HBX := Lib.hid (below_add HB2.out HBW.out HB2.out.size)
      have HSF := Lib.hid (rsame_yes (HIW.out.orow.below HBW.out) (HX.out _ HBX.out) HIO.out)
      clear hk hlt
      go_wp2_with (first
        | (go_at_call 14; (with_reducible refine HSF.out.mono ?_); rintro e w9 ⟨rfl, hb⟩; have HB9 := Lib.hid (below_add HBX.out hb HBX.out.size); clear hb)
        | (go_at_call 13; (with_reducible refine (HK.out _).mono ?_); rintro e w99 ⟨rfl, hb⟩; have HB99 := Lib.hid (below_add HB9.out hb HB9.out.size); clear hb))
      go_ret
      exact ⟨rfl, HB99.out⟩
end Go.Proofs.Ytnggnfhaokkcmaa
