
import Derived.Test.YtclbjfeneegicaaBI
/- BJ: BlocksCells -/
namespace Go.Proofs.Ytclbjfeneegicaa
open Go.RowKit
set_option linter.unusedVariables false
set_option maxRecDepth 100000

/-- What At answers of blocks that tell few enough places. -/
theorem at_tame (v : Value) (zs : List Bz) (i : Int) (w : World) (hv : Zrow w v zs) (hl : zs.length ≤ 1000) (hn : ∀ z ∈ zs, z.n ≤ 1125899906842624) (hs : ∀ z ∈ zs, z.s.length ≤ 1000) (hi : i ≤ 9223372036854775807) :
    Calls Try.prog 10 #[v, .int .i64 i] w fun e w' => Below w.heap.size w w' ∧ ((∃ (s : List Att) (a : Option Addr) (c : Nat), 0 ≤ i ∧ (ex (zs.map Bz.b))[i.toNat]? = some s ∧ e = .returned (.tuple #[.slice a s.length c, .bool true]) ∧ w'.ownsRow w.heap.size 39 5 (.slice a s.length c) s.length (fl attC s)) ∨
      ((i < 0 ∨ (ex (zs.map Bz.b)).length ≤ i.toNat) ∧ e = .returned (.tuple #[.slice none 0 0, .bool false]))) := by
  have hb : (0 : Int) + lenB (zs.map Bz.b) ≤ 9223372036854775807 := by
    have := lenB_le (l := zs.map Bz.b) (m := 1000) (N := 1125899906842624) (fun b hb => by obtain ⟨z, hz, rfl⟩ := List.mem_map.1 hb; exact hn z hz) (by decide) (by simpa using hl)
    omega
  refine (at_any v zs i w hv (fun z hz => Int.le_trans (hn z hz) (by decide)) hi (fun z hz => by have := hs z hz; omega)).mono fun e w' h => ⟨h.1, ?_⟩
  rcases h.2 with ⟨t, a, c, ht, hh, he, ho⟩ | ⟨hn, he⟩
  · obtain ⟨q1, q2⟩ := hit_yes Bz.b zs (b := 0) (by decide) hb ht hh
    rw [Int.sub_zero] at q2
    exact .inl ⟨t.2.s, a, c, q1, q2, he, ho⟩
  · refine .inr ⟨?_, he⟩
    by_cases h0 : i < 0
    · exact .inl h0
    · have := hit_no Bz.b zs (b := 0) (by decide) hb (by omega) hn
      refine .inr ?_
      unfold lenB at this
      omega
theorem len_tame {zs : List Bz} (hl : zs.length ≤ 1000) (hn : ∀ z ∈ zs, z.n ≤ 1125899906842624) : tend Bz.b 0 zs = ((ex (zs.map Bz.b)).length : Nat) := by
  have hb := lenB_le (l := zs.map Bz.b) (m := 1000) (N := 1125899906842624) (fun b hb => by obtain ⟨z, hz, rfl⟩ := List.mem_map.1 hb; exact hn z hz) (by decide) (by simpa using hl)
  rw [tend_len Bz.b zs (b := 0) (by omega)]
  unfold lenB
  omega
set_option maxHeartbeats 4000000 in
theorem rof_any (v : Value) (cs : List Cz) (w : World) (hv : Crow w v cs) (hl : cs.length ≤ 1000) (hs : ∀ z ∈ cs, z.s.length ≤ 1000) :
    Calls Try.prog 23 #[v] w fun e w' => ∃ a c zs, e = .returned (.slice a zs.length c) ∧ OfK w (cs.map Cz.inl) cs.length (.slice a zs.length c) zs w' := by
  obtain ⟨va, vc, rfl⟩ := hv.shape
  have HV := Lib.hid hv
  have HS := Lib.hid hs
  clear hv hs
  go_enter Try.func23, Try.ntmps23
  go_wp2
  go_loopw [3, 4] (fun s3 s4 wr => ∃ (k : Nat) (a : Option Addr) (c : Nat) (zs : List Bz), k ≤ cs.length ∧ s4 = .int .i64 k ∧ s3 = .slice a zs.length c ∧ Hid (OfK w ((cs.take k).map Cz.inl) k (.slice a zs.length c) zs wr)) (fun s3 s4 _ => cs.length - (intOf s4).toNat)
  case atStart => exact ⟨0, none, 0, [], Nat.zero_le _, rfl, rfl, Lib.hid (OfK.start w)⟩
  case round =>
    obtain ⟨k, ua, uc, zs, hk, rfl, rfl, HK⟩ := hrel
    rename_i wr
    have HZ := Lib.hid (HV.out.below HK.out.bel)
    by_cases hlt : k < cs.length
    · obtain ⟨b, off, rfl, -, -, -, hbl, hat⟩ := HZ.out.opn (by omega)
      obtain ⟨c0, c1, hs⟩ := hat k hlt
      have HSL := Lib.hid (HS.out _ (List.getElem_mem hlt))
      have HTK := Lib.hid (cells_take hlt)
      have HSS := Lib.hid hs
      have g7 : decide ((k : Int) < (cs.length : Int)) = true := by rw [decide_eq_true_iff]; omega
      obtain ⟨z, hz⟩ : ∃ z, cs[k] = z := ⟨_, rfl⟩
      rw [hz] at c0 c1 HSL HTK HSS
      clear hat hz hs
      by_cases h10 : z.r = 10
      · have g0 : (z.r == 10) = true := by simpa using h10
        have HP := Lib.hid (radd_any w.heap.size zs (.slice ua zs.length uc) 1 none 0 [] wr HK.out.own HK.out.z0 (Row.nil _) HK.out.bel.size (by simp) (by have := HK.out.ln; omega) HK.out.rep (by rw [List.length_map, List.length_take]; omega))
        have HIN := Lib.hid (show z.inl = [] from if_pos h10)
        clear h10
        go_wp2_with (go_at_call 29; refine HP.out.mono ?_; rintro e w2 ⟨ra, rc, zs2, rfl, q1, q2, q3, q4, q5⟩; have HQ := Lib.hid (HK.out.next q1 q2 q3 q4 q5); clear q1 q2 q3 q4 q5)
        go_roundw
        case rel => exact ⟨k + 1, ra, rc, zs2, by omega, by go_num, rfl, Lib.hid (by rw [HTK.out, HIN.out]; exact HQ.out)⟩
        case measure => simp [intOf]; omega
      · have g0 : (z.r == 10) = false := by simpa using h10
        have HP := Lib.hid (radd_any w.heap.size zs (.slice ua zs.length uc) 1 z.a z.c z.s wr HK.out.own HK.out.z0 HSS.out HK.out.bel.size HSL.out (by have := HK.out.ln; omega) HK.out.rep (by rw [List.length_map, List.length_take]; omega))
        have HIN := Lib.hid (show z.inl = z.s from if_neg h10)
        clear h10
        go_wp2_with (go_at_call 29; refine HP.out.mono ?_; rintro e w2 ⟨ra, rc, zs2, rfl, q1, q2, q3, q4, q5⟩; have HQ := Lib.hid (HK.out.next q1 q2 q3 q4 q5); clear q1 q2 q3 q4 q5)
        go_roundw
        case rel => exact ⟨k + 1, ra, rc, zs2, by omega, by go_num, rfl, Lib.hid (by rw [HTK.out, HIN.out]; exact HQ.out)⟩
        case measure => simp [intOf]; omega
    · obtain rfl : k = cs.length := by omega
      have g7 : decide ((cs.length : Int) < (cs.length : Int)) = false := by rw [decide_eq_false_iff_not]; omega
      have HE := Lib.hid (show OfK w (cs.map Cz.inl) cs.length (.slice ua zs.length uc) zs wr from by have := HK.out; rwa [List.take_of_length_le (Nat.le_refl _)] at this)
      clear HK
      go_wp2
      go_ret
      exact ⟨ua, uc, zs, rfl, HE.out⟩
/-- What blocks of cells are: few, short, proper. -/
theorem of_bounds {w w' : World} {cs : List Cz} {u : Value} {zs : List Bz} (h : OfK w (cs.map Cz.inl) cs.length u zs w') (hl : cs.length ≤ 500) (hs : ∀ z ∈ cs, z.s.length ≤ 30) : zs.length ≤ 1000 ∧ (∀ z ∈ zs, z.n ≤ 1125899906842624) ∧ (∀ z ∈ zs, z.s.length ≤ 1000) ∧ prpB (zs.map Bz.b) = true ∧ tend Bz.b 0 zs = (cs.length : Nat) := by
  have b := bz_bounds h.rep (m := 30) (by rw [List.length_map]; omega) (inl_small hs)
  have hz : zs.length ≤ 1000 := by have := h.ln; omega
  refine ⟨hz, b.1, fun z hz => Nat.le_trans (b.2.1 z hz) (by decide), (prpB_iff _).2 h.rep.prp, ?_⟩
  rw [len_tame hz b.1, h.rep.ex, List.length_map]
theorem at_cell {w : World} {cs : List Cz} {zs : List Bz} {v : Value} {k : Nat} (hz : Zrow w v zs) (hl : zs.length ≤ 1000) (hn : ∀ z ∈ zs, z.n ≤ 1125899906842624) (hs : ∀ z ∈ zs, z.s.length ≤ 1000) (he : ex (zs.map Bz.b) = cs.map Cz.inl) (hk : k < cs.length) (hk2 : (k : Int) ≤ 9223372036854775807) :
    Calls Try.prog 10 #[v, .int .i64 k] w fun e w' => ∃ a c, e = .returned (.tuple #[.slice a cs[k].inl.length c, .bool true]) ∧ Arow w' (.slice a cs[k].inl.length c) cs[k].inl ∧ Below w.heap.size w w' :=
  (at_tame v zs k w hz hl hn hs hk2).mono fun e w' h => by
    rw [he] at h
    have e1 : (cs.map Cz.inl)[(k : Int).toNat]? = some cs[k].inl := by
      rw [show (k : Int).toNat = k by omega, List.getElem?_map, List.getElem?_eq_getElem hk]; rfl
    rcases h.2 with ⟨s, a, c, -, q, rfl, ho⟩ | ⟨hh, -⟩
    · rw [e1] at q
      injection q with q
      subst q
      exact ⟨a, c, rfl, att_row ho, h.1⟩
    · rw [List.length_map] at hh
      omega
set_option maxHeartbeats 4000000 in
theorem cells_walk (v : Value) (cs : List Cz) (w : World) (hv : Crow w v cs) :
    Calls Try.prog 4 #[v] w fun e w' => e = .returned (.bool true) ∧ Below w.heap.size w w' := by
  have hlc : cs.length ≤ 9223372036854775807 := hv.row.len
  obtain ⟨va, vc, rfl⟩ := hv.shape
  have HV := Lib.hid hv
  have HK0 := Lib.hid (kn_end (Below.refl w.heap.size w))
  clear hv
  by_cases h1 : 500 < cs.length
  · have g1 : decide ((500 : Int) < (cs.length : Int)) = true := by rw [decide_eq_true_iff]; omega
    go_enter Try.func4, Try.ntmps4
    go_wp2_with (go_at_call 12; refine HK0.out.mono ?_; rintro e w1 ⟨rfl, hb1⟩)
    go_ret
    exact ⟨rfl, hb1⟩
  have g1 : decide ((500 : Int) < (cs.length : Int)) = false := by rw [decide_eq_false_iff_not]; omega
  go_enter Try.func4, Try.ntmps4
  go_wp2
  go_loop [14] (fun i => ∃ k : Nat, k ≤ cs.length ∧ i = .int .i64 k ∧ Hid (∀ z ∈ cs.take k, z.s.length ≤ 30)) (fun i => cs.length - (intOf i).toNat)
  case atStart => exact ⟨0, Nat.zero_le _, rfl, Lib.hid (by simp)⟩
  case round =>
    obtain ⟨k, hk, rfl, HP⟩ := hrel
    by_cases hlt : k < cs.length
    · obtain ⟨b, off, rfl, -, -, -, hbl, hat⟩ := HV.out.opn (by omega)
      obtain ⟨-, c1, -⟩ := hat k hlt
      have HST := Lib.hid (fun h => small_step hlt HP.out h)
      have g7 : decide ((k : Int) < (cs.length : Int)) = true := by rw [decide_eq_true_iff]; omega
      obtain ⟨z, hz⟩ : ∃ z, cs[k] = z := ⟨_, rfl⟩
      rw [hz] at c1 HST
      clear hat hz
      by_cases h3 : 30 < z.s.length
      · have g3 : decide ((30 : Int) < (z.s.length : Int)) = true := by rw [decide_eq_true_iff]; omega
        clear HST
        go_wp2_with (go_at_call 12; refine HK0.out.mono ?_; rintro e w5 ⟨rfl, hb5⟩)
        go_ret
        exact ⟨rfl, hb5⟩
      · have g3 : decide ((30 : Int) < (z.s.length : Int)) = false := by rw [decide_eq_false_iff_not]; omega
        have HB2 := Lib.hid (HST.out (by omega))
        clear HST
        go_wp2
        go_round
        case rel => exact ⟨k + 1, by omega, by go_num, HB2⟩
        case measure => simp [intOf]; omega
    · obtain rfl : k = cs.length := by omega
      have g7 : decide ((cs.length : Int) < (cs.length : Int)) = false := by rw [decide_eq_false_iff_not]; omega
      have HSM := Lib.hid (show ∀ z ∈ cs, z.s.length ≤ 30 from by have := HP.out; rwa [List.take_of_length_le (Nat.le_refl _)] at this)
      have hl500 : cs.length ≤ 500 := by omega
      clear HP hlt hk HK0 h1
      have HO1 := Lib.hid (of_any _ cs w HV.out (by omega) (fun z hz => Nat.le_trans (HSM.out z hz) (by decide)))
      have HO2 := Lib.hid (fun w5 (hb : Below w.heap.size w w5) => rof_any _ cs w5 (HV.out.below hb) (by omega) (fun z hz => Nat.le_trans (HSM.out z hz) (by decide)))
      go_upto_region 10 with (go_at_call 22; (with_reducible refine HO1.out.mono ?_); rintro e w1 ⟨pa, pc, zs1, rfl, q1⟩; have HQ1 := Lib.hid q1; have HBD := Lib.hid (of_bounds q1 hl500 HSM.out); clear q1)
      go_upto_region 12 with (first
        | (go_at_call 23; (with_reducible refine (HO2.out w1 HQ1.out.bel).mono ?_); rintro e w2 ⟨qa, qc, zs2, rfl, q2⟩; have HS2 := Lib.hid ((rsame_any _ _ zs1 zs2 w2 (HQ1.out.own.zrow.below q2.bel) q2.own.zrow).mono fun e w' hh => (show e = .returned (.bool true) ∧ Below w2.heap.size w2 w' from ⟨by rw [hh.1, decide_eq_true (HQ1.out.rep.uniq q2.rep)], hh.2⟩)); have HB2 := Lib.hid (HQ1.out.bel.trans (q2.bel.mono HQ1.out.bel.size)); have HZ2 := Lib.hid (HQ1.out.own.zrow.below q2.bel); clear q2)
        | (go_at_call 18; (with_reducible refine HS2.out.mono ?_); rintro e w3 ⟨rfl, hb3⟩; have HZ3 := Lib.hid (HZ2.out.below hb3); have HB3 := Lib.hid (below_add HB2.out hb3 HB2.out.size); have HPR := Lib.hid ((proper_any _ zs1 w3 HZ3.out).mono fun e w' hh => (show e = .returned (.bool true) ∧ Below w3.heap.size w3 w' from ⟨by rw [hh.1, HBD.out.2.2.2.1], hh.2⟩)); clear hb3)
        | (go_at_call 9; (with_reducible refine HPR.out.mono ?_); rintro e w4 ⟨rfl, hb4⟩; have HZ4 := Lib.hid (HZ3.out.below hb4); have HB4 := Lib.hid (below_add HB3.out hb4 HB3.out.size); have HLE := Lib.hid ((len_any _ zs1 w4 HZ4.out (fun z hz => Int.le_trans (HBD.out.2.1 z hz) (by decide))).mono fun e w' hh => (show e = .returned (.int .i64 (cs.length : Nat)) ∧ Below w4.heap.size w4 w' from ⟨by rw [hh.1, HBD.out.2.2.2.2], hh.2⟩)); clear hb4)
        | (go_at_call 11; (with_reducible refine HLE.out.mono ?_); rintro e w5 ⟨rfl, hb5⟩; have HZ5 := Lib.hid (HZ4.out.below hb5); have HB5 := Lib.hid (below_add HB4.out hb5 HB4.out.size); clear hb5))
      go_wp2_with fail
      go_loopw [47] (fun i wr => ∃ k : Nat, k ≤ cs.length ∧ i = .int .i64 k ∧ Hid (Zrow wr (.slice pa zs1.length pc) zs1 ∧ Below w.heap.size w wr)) (fun i _ => cs.length - (intOf i).toNat)
      case atStart => exact ⟨0, Nat.zero_le _, rfl, Lib.hid ⟨HZ5.out, HB5.out⟩⟩
      case round =>
        obtain ⟨k, hk, rfl, HR⟩ := hrel
        rename_i wr
        by_cases hlt : k < cs.length
        · obtain ⟨b, off, rfl, -, -, -, hbl, hat⟩ := (HV.out.below HR.out.2).opn (by omega)
          obtain ⟨c0, c1, hs⟩ := hat k hlt
          have g7 : decide ((k : Int) < (cs.length : Int)) = true := by rw [decide_eq_true_iff]; omega
          have HA := Lib.hid (at_cell HR.out.1 HBD.out.1 HBD.out.2.1 HBD.out.2.2.1 HQ1.out.rep.ex hlt (by omega))
          obtain ⟨z, hz⟩ : ∃ z, cs[k] = z := ⟨_, rfl⟩
          rw [hz] at c0 c1 hs HA
          have HS := Lib.hid hs
          have HC := Lib.hid (And.intro c0 c1)
          clear hat hz hs c0 c1
          have HI1 := Lib.hid (show z.r = 10 → z.inl = [] from fun h => if_pos h)
          have HI2 := Lib.hid (show ¬ z.r = 10 → z.inl = z.s from fun h => if_neg h)
          by_cases h10 : z.r = 10
          · have g0 : (z.r == 10) = true := by simpa using h10
            have g2 : (z.r != 10) = false := by simpa using h10
            rw [HI1.out h10] at HA
            clear h10
            go_wp2_with (go_at_call 10; refine HA.out.mono ?_; rintro e w6 ⟨ra, rc, rfl, hr6, hb6⟩; have HR6 := Lib.hid (show Zrow w6 (.slice pa zs1.length pc) zs1 ∧ Below w.heap.size w w6 from ⟨HR.out.1.below hb6, below_add HR.out.2 hb6 HR.out.2.size⟩); have d0 := cell_below hb6 HC.out.1; have d1 := cell_below hb6 HC.out.2; clear hr6 hb6)
            go_roundw
            case rel => exact ⟨k + 1, by omega, by go_num, HR6⟩
            case measure => simp [intOf]; omega
          · have g0 : (z.r == 10) = false := by simpa using h10
            have g2 : (z.r != 10) = true := by simpa using h10
            rw [HI2.out h10] at HA
            clear h10
            go_wp2_with (first
              | (go_at_call 10; refine HA.out.mono ?_; rintro e w6 ⟨ra, rc, rfl, hr6, hb6⟩; have HR6 := Lib.hid (show Zrow w6 (.slice pa zs1.length pc) zs1 ∧ Below w.heap.size w w6 from ⟨HR.out.1.below hb6, below_add HR.out.2 hb6 HR.out.2.size⟩); have d0 := cell_below hb6 HC.out.1; have d1 := cell_below hb6 HC.out.2; have HSM6 := Lib.hid ((rsame_anyB _ _ z.s z.s w6 hr6 (HS.out.below hb6 (Nat.le_refl _))).mono fun e w' hh => (show e = .returned (.bool true) ∧ Below w6.heap.size w6 w' from ⟨by rw [hh.1, decide_eq_true rfl], hh.2⟩)); clear hr6 hb6)
              | (go_at_call 21; refine HSM6.out.mono ?_; rintro e w7 ⟨rfl, hb7⟩; have HR7 := Lib.hid (show Zrow w7 (.slice pa zs1.length pc) zs1 ∧ Below w.heap.size w w7 from ⟨HR6.out.1.below hb7, below_add HR6.out.2 hb7 HR6.out.2.size⟩); clear hb7))
            go_roundw
            case rel => exact ⟨k + 1, by omega, by go_num, HR7⟩
            case measure => simp [intOf]; omega
        · obtain rfl : k = cs.length := by omega
          have g7 : decide ((cs.length : Int) < (cs.length : Int)) = false := by rw [decide_eq_false_iff_not]; omega
          have HKE := Lib.hid (kn_end HR.out.2)
          go_wp2_with (go_at_call 12; refine HKE.out.mono ?_; rintro e w8 ⟨rfl, hb8⟩)
          go_ret
          exact ⟨rfl, hb8⟩
end Go.Proofs.Ytclbjfeneegicaa
