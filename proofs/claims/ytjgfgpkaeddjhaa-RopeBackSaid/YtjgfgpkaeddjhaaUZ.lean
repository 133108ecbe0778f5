
import Derived.Test.YtjgfgpkaeddjhaaUY
/- UZ: RopeBack -/
namespace Go.Proofs.Ytjgfgpkaeddjhaa
open Go.RowKit
set_option linter.unusedVariables false
set_option maxRecDepth 100000
theorem back_facts (l a : List Int) (i : Int) (ha : a.all code = true) (h1 : 0 ≤ i) (h2 : i ≤ (l.length : Nat)) : ∃ L : List Int,
    insE l a i = 0 ∧ insL l a i = L ∧ L.length = l.length + a.length ∧ (L.take (i + (a.length : Nat)).toNat).drop i.toNat = a ∧ reachE L.length i (i + (a.length : Nat)) = 0 ∧ delL L i (i + (a.length : Nat)) = l := by
  have e1 : insE l a i = 0 := insE_ok ha h1 h2
  have d1 := insL_ok e1
  obtain ⟨p, rfl⟩ : ∃ k : Nat, i = (k : Nat) := ⟨i.toNat, by omega⟩
  have hp : p ≤ l.length := by omega
  rw [Int.toNat_natCast] at d1
  have hA : (l.take p).length = p := by rw [List.length_take]; omega
  have hL : (insL l a (p : Nat)).length = l.length + a.length := by rw [d1, List.length_append, List.length_append, hA, List.length_drop]; omega
  have hr : reachE (insL l a (p : Nat)).length ((p : Nat) : Int) (((p : Nat) : Int) + (a.length : Nat)) = 0 := reachE_eq.2 ⟨by omega, by omega, by omega⟩
  refine ⟨_, e1, rfl, hL, ?_, hr, ?_⟩
  · rw [show (((p : Nat) : Int) + (a.length : Nat)).toNat = p + a.length by omega, Int.toNat_natCast, d1, ← List.append_assoc, List.take_left' (by rw [List.length_append, hA]), List.drop_left' hA]
  · rw [delL_ok hr, show (((p : Nat) : Int) + (a.length : Nat)).toNat = p + a.length by omega, Int.toNat_natCast, d1, List.take_left' hA]
    rw [← List.append_assoc, List.drop_left' (by rw [List.length_append, hA]), List.take_append_drop]
set_option maxHeartbeats 2000000 in
theorem back_long (v0 vm : Value) (ls : List OpL) (m : List Int) (i : Int) (w : World) (h0 : Orow w v0 ls) (hm : Ints .i32 w vm m) (hl : ¬ (ls.length ≤ 40 ∧ m.length ≤ 1000)) :
    Calls Try.prog 5 #[v0, .int .i64 i, vm] w fun e w' => e = .returned (.bool true) ∧ Below w.heap.size w w' := by
  obtain ⟨a0, c0, rfl⟩ := h0.shape
  obtain ⟨am, cm, rfl⟩ := hm.shape
  have hlen := h0.len
  have hlenm := hm.len
  by_cases h40 : ls.length ≤ 40
  · have g0 : decide ((40 : Int) < (ls.length : Int)) = false := decide_eq_false (by omega)
    have g1 : decide ((1000 : Int) < (m.length : Int)) = true := decide_eq_true (by omega)
    clear h0 hm hl h40
    go_enter Try.func5, Try.ntmps5
    go_wp2_with (first
      | (go_at_call 23; refine (rv_new (B := w.heap.size) w (Nat.le_refl _)).mono ?_; rintro e w1 ⟨rb, rfl, q1, bb⟩; have B1 := Lib.hid bb; clear q1 bb)
      | (go_at_call 9; refine (known10_any _).mono ?_; rintro e w2 ⟨rfl, bb⟩; have B99 := Lib.hid (below_add B1.out bb B1.out.size); clear bb))
    go_ret
    exact ⟨rfl, B99.out⟩
  · have g0 : decide ((40 : Int) < (ls.length : Int)) = true := decide_eq_true (by omega)
    clear h0 hm hl h40
    go_enter Try.func5, Try.ntmps5
    go_wp2_with (first
      | (go_at_call 23; refine (rv_new (B := w.heap.size) w (Nat.le_refl _)).mono ?_; rintro e w1 ⟨rb, rfl, q1, bb⟩; have B1 := Lib.hid bb; clear q1 bb)
      | (go_at_call 9; refine (known10_any _).mono ?_; rintro e w2 ⟨rfl, bb⟩; have B99 := Lib.hid (below_add B1.out bb B1.out.size); clear bb))
    go_ret
    exact ⟨rfl, B99.out⟩
set_option maxHeartbeats 8000000 in
theorem back_main (v0 vm : Value) (ls : List OpL) (m : List Int) (i : Int) (w : World) (h0 : Orow w v0 ls) (hm : Ints .i32 w vm m) (hl : ls.length ≤ 40) (hl2 : m.length ≤ 1000) :
    Calls Try.prog 5 #[v0, .int .i64 i, vm] w fun e w' => e = .returned (.bool true) ∧ Below w.heap.size w w' := by
  obtain ⟨a0, c0, rfl⟩ := h0.shape
  obtain ⟨am, cm, rfl⟩ := hm.shape
  have H0 := Lib.hid h0
  have VM := Lib.hid hm
  obtain ⟨n0, hn0⟩ : ∃ n, ls.length = n := ⟨_, rfl⟩
  have N0 := Lib.hid hn0
  rw [hn0] at H0 hl ⊢
  obtain ⟨nm, hnm⟩ : ∃ n, m.length = n := ⟨_, rfl⟩
  have NM := Lib.hid hnm
  rw [hnm] at VM hl2 ⊢
  have g0 : decide ((40 : Int) < (n0 : Int)) = false := decide_eq_false (by omega)
  have g00 : decide ((1000 : Int) < (nm : Int)) = false := decide_eq_false (by omega)
  clear h0 hn0 hm hnm
  go_enter Try.func5, Try.ntmps5
  go_wp2_with (go_at_call 23; refine (rv_new (B := w.heap.size) w (Nat.le_refl _)).mono ?_; rintro e w1 ⟨rb, rfl, q1, bb⟩; have R1 := Lib.hid q1; have B1 := Lib.hid bb; clear q1 bb)
  go_loopw [46] (fun s wr => ∃ (k : Nat) (cur : List Int), k ≤ n0 ∧ s = .int .i64 k ∧ Hid (RV w.heap.size rb cur wr ∧ cur.length ≤ 3300 ∧ cur.all code = true ∧ Below w.heap.size w wr)) (fun s _ => n0 - (intOf s).toNat)
  case atStart => exact ⟨0, [], Nat.zero_le _, rfl, Lib.hid ⟨R1.out, by simp, rfl, B1.out⟩⟩
  case round =>
    rename_i wr
    obtain ⟨k, cur, hk, rfl, HR⟩ := hrel
    have i0 : (0 : Int) ≤ (k : Int) := by omega
    by_cases hlt : k < n0
    · have HO := (H0.out.below HR.out.2.2.2)
      obtain ⟨b, off, rfl, -, hcap, hmx, hb, hat⟩ := HO.opn (by rw [N0.out]; omega)
      obtain ⟨xa, xc, ck, ci, cj, cx, hx⟩ := hat k (by rw [N0.out]; exact hlt)
      generalize ls[k]'(by rw [N0.out]; exact hlt) = o at *
      obtain ⟨ok, oi, oj, on, ox⟩ := o
      dsimp only at ck ci cj cx hx
      have VX := Lib.hid hx
      have i1 : (k : Int) < n0 := by omega
      have HCI := Lib.hid (fun (w' : World) (hb : Below wr.heap.size wr w') => And.intro ((hb.cell (World.block_lt_of_cell? _ _ ck)).trans ck) (And.intro ((hb.cell (World.block_lt_of_cell? _ _ ci)).trans ci) (And.intro ((hb.cell (World.block_lt_of_cell? _ _ cj)).trans cj) ((hb.cell (World.block_lt_of_cell? _ _ cx)).trans cx))))
      have hcx : ox.length ≤ 9223372036854775807 := hx.len
      clear hat hx HO hb
      obtain ⟨nx, hnx⟩ : ∃ n, ox.length = n := ⟨_, rfl⟩
      have NX := Lib.hid hnx
      rw [hnx] at cx VX HCI hcx
      clear hnx
      by_cases h300 : nx ≤ 300
      · have g1 : decide ((300 : Int) < (nx : Int)) = false := decide_eq_false (by omega)
        have HL := Lib.hid (rv_lenN HR.out.1 rfl)
        obtain ⟨nc, hnc⟩ : ∃ n, cur.length = n := ⟨_, rfl⟩
        have NC := Lib.hid hnc
        rw [hnc] at HL
        clear hnc
        by_cases h3000 : nc ≤ 3000
        · have g2 : decide ((3000 : Int) < (nc : Int)) = false := decide_eq_false (by omega)
          by_cases h2 : ok = 2
          · have g3 : (ok == 2) = true := by rw [beq_iff_eq]; exact h2
            clear h2
            go_wp2_with (go_at_call 19; refine HL.out.mono ?_; rintro e w3 ⟨rfl, bb⟩; obtain ⟨ck3, ci3, cj3, cx3⟩ := HCI.out _ bb; have R3 := Lib.hid (HR.out.1.below bb); have B3 := Lib.hid (below_add HR.out.2.2.2 bb HR.out.2.2.2.size); clear bb)
            have HI := Lib.hid (rv_del (R3.out.below ((Below.refl _ w3).drew)) (by rw [NC.out]; omega) oi oj)
            have B4 := Lib.hid (B3.out.trans ((Below.refl w.heap.size w3).drew))
            clear HL HCI
            go_still_tail 11, (by kernel_rfl)
            change wpList _ _ _ _ _ w3.drew
            generalize w3.drew = w4 at *
            go_wp2_with (go_at_call 17; refine HI.out.mono ?_; rintro e w5 ⟨rfl, rr, bb⟩; have R5 := Lib.hid rr; have B5 := Lib.hid (B4.out.trans bb); clear rr bb)
            go_roundw
            case rel => exact ⟨k + 1, delL cur oi oj, by omega, by go_num, Lib.hid ⟨R5.out, by have := delL_len cur oi oj; have := NC.out; omega, delL_code HR.out.2.2.1, B5.out⟩⟩
            case measure => simp [intOf]; omega
          · have g3 : (ok == 2) = false := by rw [beq_eq_false_iff_ne]; exact h2
            clear h2
            go_wp2_with (go_at_call 19; refine HL.out.mono ?_; rintro e w3 ⟨rfl, bb⟩; obtain ⟨ck3, ci3, cj3, cx3⟩ := HCI.out _ bb; have R3 := Lib.hid (HR.out.1.below bb); have B3 := Lib.hid (below_add HR.out.2.2.2 bb HR.out.2.2.2.size); have V3 := Lib.hid (VX.out.below bb); clear bb)
            have HI := Lib.hid (rv_ins (R3.out.below ((Below.refl _ w3).drew)) (by rw [NC.out, NX.out]; omega) oi _ (V3.out.below ((Below.refl _ w3).drew)))
            have B4 := Lib.hid (B3.out.trans ((Below.refl w.heap.size w3).drew))
            clear HL HCI
            go_still_tail 11, (by kernel_rfl)
            change wpList _ _ _ _ _ w3.drew
            generalize w3.drew = w4 at *
            go_wp2_with (go_at_call 16; refine HI.out.mono ?_; rintro e w5 ⟨rfl, rr, bb⟩; have R5 := Lib.hid rr; have B5 := Lib.hid (B4.out.trans bb); clear rr bb)
            go_roundw
            case rel => exact ⟨k + 1, insL cur ox oi, by omega, by go_num, Lib.hid ⟨R5.out, by have := insL_len cur ox oi; have := NC.out; have := NX.out; omega, insL_code HR.out.2.2.1, B5.out⟩⟩
            case measure => simp [intOf]; omega
        · have g2 : decide ((3000 : Int) < (nc : Int)) = true := decide_eq_true (by omega)
          go_wp2_with (go_at_call 19; refine HL.out.mono ?_; rintro e w3 ⟨rfl, bb⟩; have R3 := Lib.hid (HR.out.1.below bb); have B3 := Lib.hid (below_add HR.out.2.2.2 bb HR.out.2.2.2.size); clear bb)
          go_roundw
          case rel => exact ⟨k + 1, cur, by omega, by go_num, Lib.hid ⟨R3.out, HR.out.2.1, HR.out.2.2.1, B3.out⟩⟩
          case measure => simp [intOf]; omega
      · have g1 : decide ((300 : Int) < (nx : Int)) = true := decide_eq_true (by omega)
        go_wp2
        go_roundw
        case rel => exact ⟨k + 1, cur, by omega, by go_num, HR⟩
        case measure => simp [intOf]; omega
    · obtain rfl : k = n0 := by omega
      have g9 : decide ((k : Int) < (k : Int)) = false := decide_eq_false (by omega)
      clear hlt hk i0
      have HCUR := Lib.hid (And.intro HR.out.2.1 HR.out.2.2.1)
      have R10 := Lib.hid HR.out.1
      have B10 := Lib.hid HR.out.2.2.2
      obtain ⟨nc, hnc⟩ : ∃ n, cur.length = n := ⟨_, rfl⟩
      have hcn : nc ≤ 3300 := by have := HCUR.out.1; omega
      have NC := Lib.hid hnc
      clear HR hnc R1 B1
      by_cases hc : m.all code = true
      · by_cases hin : 0 ≤ i ∧ i ≤ (cur.length : Nat)
        · obtain ⟨L, e1, e2, e3, e4, e5, e6⟩ := back_facts cur m i hc hin.1 hin.2
          rw [NM.out] at e3 e4 e5 e6
          have E := Lib.hid (And.intro e1 (And.intro e2 (And.intro e3 (And.intro e4 (And.intro e5 e6)))))
          have HIN := Lib.hid hin
          have u1 : 0 ≤ i := hin.1
          have u2 : i ≤ 3300 := by have := HCUR.out.1; omega
          have u3 : 0 ≤ i + ((nm : Nat) : Int) := by omega
          have u4 : i + ((nm : Nat) : Int) ≤ 4300 := by omega
          obtain ⟨nn, hnn⟩ : ∃ n, nl cur = n := ⟨_, rfl⟩
          have NN := Lib.hid hnn
          obtain ⟨n1, hn1⟩ : ∃ n, nl (cur.take i.toNat) = n := ⟨_, rfl⟩
          have N1 := Lib.hid hn1
          have N1N := Lib.hid (show n1 ≤ nl cur by rw [← hn1, ← nl_all (Nat.le_refl cur.length)]; exact nl_take_mono cur (by omega))
          clear e1 e2 e3 e4 e5 e6 hin hnn hn1 hc
          go_wp2_with (first
            | (go_at_call 19; (with_reducible refine (rv_lenN R10.out NC.out).mono ?_); rintro e w11 ⟨rfl, bb⟩; have R11 := Lib.hid (R10.out.below bb); have B11 := Lib.hid (below_add B10.out bb B10.out.size); clear bb)
            | (go_at_call 11; (with_reducible refine (kv_all R11.out (by have := HCUR.out.1; omega) NC.out).mono ?_); rintro e w12 ⟨av, cv, rfl, q1, bb⟩; have R12 := Lib.hid q1; have B12 := Lib.hid (below_add B11.out bb B11.out.size); clear q1 bb)
            | (go_at_call 16; (with_reducible refine (kv_insE R12.out (by have := HCUR.out.1; have := NM.out; omega) i _ (VM.out.below B12.out) E.out.1 E.out.2.1).mono ?_); rintro e w13 ⟨rfl, q1, bb⟩; have R13 := Lib.hid q1; have B13 := Lib.hid (B12.out.trans bb); clear q1 bb)
            | (go_at_call 11; (with_reducible refine (rv_sliceN R13.out.rv (by have := HCUR.out.1; have := NM.out; have := E.out.2.2.1; omega) i (i + ((nm : Nat) : Int)) HIN.out.1 (by omega) (by rw [E.out.2.2.1]; have := HIN.out; omega) E.out.2.2.2.1).mono ?_); rintro e w14 ⟨v5, rfl, hv, bb⟩; obtain ⟨xa, xc, hxx⟩ := hv.shape; rw [NM.out] at hxx; subst hxx; have V5 := Lib.hid hv; clear hv; have R14 := Lib.hid (R13.out.below bb); have B14 := Lib.hid (below_add B13.out bb B13.out.size); clear bb)
            | (go_at_call 24; (with_reducible refine (same9_self _ _ m m rfl _ V5.out (VM.out.below B14.out)).mono ?_); rintro e w15 ⟨rfl, bb⟩; have R15 := Lib.hid (R14.out.below bb); have B15 := Lib.hid (below_add B14.out bb B14.out.size); clear bb)
            | (go_at_call 17; (with_reducible refine (kv_delE R15.out (by have := HCUR.out.1; have := NM.out; have := E.out.2.2.1; omega) i (i + ((nm : Nat) : Int)) E.out.2.2.2.2.1 E.out.2.2.2.2.2).mono ?_); rintro e w16 ⟨rfl, q1, bb⟩; have R16 := Lib.hid q1; have B16 := Lib.hid (B15.out.trans bb); clear q1 bb)
            | (go_at_call 14; (with_reducible refine (kv_split R16.out (by have := HCUR.out.1; omega) i HIN.out.1 HIN.out.2).mono ?_); rintro e w17 ⟨nb, rfl, q1, bb⟩; have R17 := Lib.hid q1; have B17 := Lib.hid (B16.out.trans bb); clear q1 bb)
            | (go_at_call 18; (with_reducible refine (kv_concat R17.out (by rw [List.length_take, List.length_drop]; have := HCUR.out.1; omega) (List.take_append_drop _ _)).mono ?_); rintro e w18 ⟨rfl, q1, bb⟩; have R18 := Lib.hid q1; have B18 := Lib.hid (B17.out.trans bb); clear q1 bb)
            | (go_at_call 19; (with_reducible refine (rv_lenN R18.out.rv NC.out).mono ?_); rintro e w19 ⟨rfl, bb⟩; have R19 := Lib.hid (R18.out.below bb); have B19 := Lib.hid (below_add B18.out bb B18.out.size); clear bb)
            | (go_at_call 11; (with_reducible refine (rv_all R19.out.rv (by have := HCUR.out.1; omega) NC.out).mono ?_); rintro e w20 ⟨v9, rfl, hv, bb⟩; obtain ⟨xa, xc, hxx⟩ := hv.shape; rw [NC.out] at hxx; subst hxx; have V9 := Lib.hid hv; clear hv; have R20 := Lib.hid (R19.out.below bb); have B20 := Lib.hid (below_add B19.out bb B19.out.size); clear bb)
            | (go_at_call 24; (with_reducible refine (same9_self _ _ cur cur rfl _ R20.out.ints V9.out).mono ?_); rintro e w21 ⟨rfl, bb⟩; have R21 := Lib.hid (R20.out.below bb); have B21 := Lib.hid (below_add B20.out bb B20.out.size); clear bb)
            | (go_at_call 23; (with_reducible refine (kv_new2 R21.out).mono ?_); rintro e w22 ⟨sb, rfl, q1, bb⟩; have V20 := Lib.hid q1.ints; have R22 := Lib.hid q1.r2.swap; have B22 := Lib.hid (below_add B21.out bb B21.out.size); clear q1 bb)
            | (go_at_call 16; (with_reducible refine (r2_insE R22.out (by have := HCUR.out.1; simp; omega) 0 _ V20.out (insE_new HCUR.out.2) (insL_new HCUR.out.2)).mono ?_); rintro e w23 ⟨rfl, q1, bb⟩; have R23 := Lib.hid q1; have B23 := Lib.hid (B22.out.trans bb); clear q1 bb)
            | (go_at_call 20; (with_reducible refine (rv_nlN R23.out.fst NN.out).mono ?_); rintro e w24 ⟨rfl, bb⟩; have R24 := Lib.hid (R23.out.below bb); have B24 := Lib.hid (below_add B23.out bb B23.out.size); clear bb)
            | (go_at_call 20; (with_reducible refine (rv_nlN R24.out.snd NN.out).mono ?_); rintro e w25 ⟨rfl, bb⟩; have R25 := Lib.hid (R24.out.below bb); have B25 := Lib.hid (below_add B24.out bb B24.out.size); clear bb)
            | (go_at_call 12; (with_reducible refine (rv_lineN R25.out.fst (by have := HCUR.out.1; omega) i HIN.out.1 HIN.out.2 N1.out).mono ?_); rintro e w26 ⟨rfl, bb⟩; have R26 := Lib.hid (R25.out.below bb); have B26 := Lib.hid (below_add B25.out bb B25.out.size); clear bb)
            | (go_at_call 12; (with_reducible refine (rv_lineN R26.out.snd (by have := HCUR.out.1; omega) i HIN.out.1 HIN.out.2 N1.out).mono ?_); rintro e w27 ⟨rfl, bb⟩; have R27 := Lib.hid (R26.out.below bb); have B27 := Lib.hid (below_add B26.out bb B26.out.size); clear bb)
            | (go_at_call 13; (with_reducible refine (rv_offset R27.out.fst (by have := HCUR.out.1; omega) n1 N1N.out).mono ?_); rintro e w28 ⟨o1, rfl, st, bb⟩; have ST := Lib.hid st; clear st; have R28 := Lib.hid (R27.out.below bb); have B28 := Lib.hid (below_add B27.out bb B27.out.size); clear bb)
            | (go_at_call 13; (with_reducible refine (rv_offset R28.out.snd (by have := HCUR.out.1; omega) n1 N1N.out).mono ?_); rintro e w29 ⟨o2, rfl, st, bb⟩; obtain rfl := Starts.one ST.out st; clear st; have R29 := Lib.hid (R28.out.below bb); have B29 := Lib.hid (below_add B28.out bb B28.out.size); clear bb)
            | (go_at_call 9; (with_reducible refine (known10_any _).mono ?_); rintro e w30 ⟨rfl, bb⟩; have B99 := Lib.hid (below_add B29.out bb B29.out.size); clear bb))
          go_ret
          exact ⟨rfl, B99.out⟩
        · have HIN := Lib.hid hin
          have HC := Lib.hid hc
          clear hin hc
          go_wp2_with (first
            | (go_at_call 19; (with_reducible refine (rv_lenN R10.out NC.out).mono ?_); rintro e w11 ⟨rfl, bb⟩; have R11 := Lib.hid (R10.out.below bb); have B11 := Lib.hid (below_add B10.out bb B10.out.size); clear bb)
            | (go_at_call 11; (with_reducible refine (kv_all R11.out (by have := HCUR.out.1; omega) NC.out).mono ?_); rintro e w12 ⟨av, cv, rfl, q1, bb⟩; have R12 := Lib.hid q1; have B12 := Lib.hid (below_add B11.out bb B11.out.size); clear q1 bb)
            | (go_at_call 16; (with_reducible refine (kv_insE R12.out (by have := HCUR.out.1; have := NM.out; omega) i _ (VM.out.below B12.out) (insE_no HC.out HIN.out) (insL_not (by rw [insE_no HC.out HIN.out]; decide))).mono ?_); rintro e w13 ⟨rfl, q1, bb⟩; have R13 := Lib.hid q1; have B13 := Lib.hid (B12.out.trans bb); clear q1 bb)
            | (go_at_call 9; (with_reducible refine (known10_any _).mono ?_); rintro e w14 ⟨rfl, bb⟩; have B99 := Lib.hid (below_add B13.out bb B13.out.size); clear bb))
          go_ret
          exact ⟨rfl, B99.out⟩
      · have HC := Lib.hid (eq_false_of_ne_true hc)
        clear hc
        go_wp2_with (first
          | (go_at_call 19; (with_reducible refine (rv_lenN R10.out NC.out).mono ?_); rintro e w11 ⟨rfl, bb⟩; have R11 := Lib.hid (R10.out.below bb); have B11 := Lib.hid (below_add B10.out bb B10.out.size); clear bb)
          | (go_at_call 11; (with_reducible refine (kv_all R11.out (by have := HCUR.out.1; omega) NC.out).mono ?_); rintro e w12 ⟨av, cv, rfl, q1, bb⟩; have R12 := Lib.hid q1; have B12 := Lib.hid (below_add B11.out bb B11.out.size); clear q1 bb)
          | (go_at_call 16; (with_reducible refine (kv_insE R12.out (by have := HCUR.out.1; have := NM.out; omega) i _ (VM.out.below B12.out) (insE_bad HC.out) (insL_not (by rw [insE_bad HC.out]; decide))).mono ?_); rintro e w13 ⟨rfl, q1, bb⟩; have R13 := Lib.hid q1; have B13 := Lib.hid (B12.out.trans bb); clear q1 bb)
          | (go_at_call 9; (with_reducible refine (known10_any _).mono ?_); rintro e w14 ⟨rfl, bb⟩; have B99 := Lib.hid (below_add B13.out bb B13.out.size); clear bb))
        go_ret
        exact ⟨rfl, B99.out⟩
theorem back_walk (v0 vm : Value) (ls : List OpL) (m : List Int) (i : Int) (w : World) (h0 : Orow w v0 ls) (hm : Ints .i32 w vm m) :
    Calls Try.prog 5 #[v0, .int .i64 i, vm] w fun e w' => e = .returned (.bool true) ∧ Below w.heap.size w w' := by
  by_cases hl : ls.length ≤ 40 ∧ m.length ≤ 1000
  · exact back_main v0 vm ls m i w h0 hm hl.1 hl.2
  · exact back_long v0 vm ls m i w h0 hm hl
end Go.Proofs.Ytjgfgpkaeddjhaa
