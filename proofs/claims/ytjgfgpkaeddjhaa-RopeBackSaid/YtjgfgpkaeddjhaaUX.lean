
import Derived.Test.YtjgfgpkaeddjhaaUV
import Derived.Test.YtjgfgpkaeddjhaaUW
/- UX: RopeLines -/
namespace Go.Proofs.Ytjgfgpkaeddjhaa
open Go.RowKit
set_option linter.unusedVariables false
set_option maxRecDepth 100000
theorem starts_le {l : List Int} {n o i : Nat} (h : Starts l n o) (hi : nl (l.take i) = n) : o ≤ i := by
  obtain ⟨h1, h2, h3, h4⟩ := h
  by_cases hn : n = 0
  · rw [h3 hn]; exact Nat.zero_le _
  · obtain ⟨a1, -, a2⟩ := h4 (by omega)
    by_cases hlt : o ≤ i
    · exact hlt
    · have := nl_take_mono l (show i ≤ o - 1 by omega)
      omega
theorem starts_gt {l : List Int} {n o i : Nat} (h : Starts l (n + 1) o) (hi : nl (l.take i) = n) : i < o := by
  obtain ⟨h1, h2, h3, h4⟩ := h
  by_cases hlt : i < o
  · exact hlt
  · have := nl_take_mono l (show o ≤ i by omega)
    omega
section
variable {B rb : Nat} {l : List Int} {w w' : World}
theorem rv_atN (h : RV B rb l w) (hQ : l.length ≤ 400000) (i : Int) (h0 : 0 ≤ i) (hi : i < (l.length : Nat)) {x : Int} (hx : l.getD i.toNat 0 = x) : Calls Try.prog 10 #[.pointer (some ⟨rb, 0, none⟩), .int .i64 i] w fun e w' => e = .returned (.tuple #[.int .i32 x, .int .i64 0]) ∧ Below w.heap.size w w' := by
  subst hx
  obtain ⟨p, rfl⟩ : ∃ k : Nat, i = (k : Nat) := ⟨i.toNat, by omega⟩
  exact rv_at h hQ p (by omega)
theorem rv_offsetN (h : RV B rb l w) (hQ : l.length ≤ 400000) (i : Int) {n : Nat} (hi : i = (n : Nat)) (hn : n ≤ nl l) : Calls Try.prog 13 #[.pointer (some ⟨rb, 0, none⟩), .int .i64 i] w fun e w' => ∃ o : Nat, e = .returned (.tuple #[.int .i64 (o : Nat), .int .i64 0]) ∧ Starts l n o ∧ Below w.heap.size w w' := by
  subst hi
  exact rv_offset h hQ n hn
end
set_option maxHeartbeats 2000000 in
theorem lines_long (v0 : Value) (ls : List OpL) (i : Int) (w : World) (h0 : Orow w v0 ls) (hl : ¬ ls.length ≤ 40) :
    Calls Try.prog 4 #[v0, .int .i64 i] w fun e w' => e = .returned (.bool true) ∧ Below w.heap.size w w' := by
  obtain ⟨a0, c0, rfl⟩ := h0.shape
  have hlen := h0.len
  have g0 : decide ((40 : Int) < (ls.length : Int)) = true := decide_eq_true (by omega)
  clear h0
  go_enter Try.func4, Try.ntmps4
  go_wp2_with (first
    | (go_at_call 23; refine (rv_new (B := w.heap.size) w (Nat.le_refl _)).mono ?_; rintro e w1 ⟨rb, rfl, q1, bb⟩; have B1 := Lib.hid bb; clear q1 bb)
    | (go_at_call 9; refine (known10_any _).mono ?_; rintro e w2 ⟨rfl, bb⟩; have B99 := Lib.hid (below_add B1.out bb B1.out.size); clear bb))
  go_ret
  exact ⟨rfl, B99.out⟩
set_option maxHeartbeats 4000000 in
theorem lines_main (v0 : Value) (ls : List OpL) (i : Int) (w : World) (h0 : Orow w v0 ls) (hl : ls.length ≤ 40) :
    Calls Try.prog 4 #[v0, .int .i64 i] w fun e w' => e = .returned (.bool true) ∧ Below w.heap.size w w' := by
  obtain ⟨a0, c0, rfl⟩ := h0.shape
  have H0 := Lib.hid h0
  obtain ⟨n0, hn0⟩ : ∃ n, ls.length = n := ⟨_, rfl⟩
  have N0 := Lib.hid hn0
  rw [hn0] at H0 hl ⊢
  have g0 : decide ((40 : Int) < (n0 : Int)) = false := decide_eq_false (by omega)
  clear h0 hn0
  go_enter Try.func4, Try.ntmps4
  go_wp2_with (go_at_call 23; refine (rv_new (B := w.heap.size) w (Nat.le_refl _)).mono ?_; rintro e w1 ⟨rb, rfl, q1, bb⟩; have R1 := Lib.hid q1; have B1 := Lib.hid bb; clear q1 bb)
  go_loopw [35] (fun s wr => ∃ (k : Nat) (cur : List Int), k ≤ n0 ∧ s = .int .i64 k ∧ Hid (RV w.heap.size rb cur wr ∧ cur.length ≤ 3300 ∧ cur.all code = true ∧ Below w.heap.size w wr)) (fun s _ => n0 - (intOf s).toNat)
  case atStart => exact ⟨0, [], Nat.zero_le _, rfl, Lib.hid ⟨R1.out, by simp, rfl, B1.out⟩⟩
  case round =>
    rename_i wr
    obtain ⟨k, cur, hk, rfl, HR⟩ := hrel
    have i0 : (0 : Int) ≤ (k : Int) := by omega
    by_cases hlt : k < n0
    · have HO := (H0.out.below HR.out.2.2.2)
      obtain ⟨b, off, rfl, -, hcap, hmx, hb, hat⟩ := HO.opn (by rw [N0.out]; omega)
      obtain ⟨xa, xc, ck, ci, cj, cx, hx⟩ := hat k (by rw [N0.out]; exact hlt)
      generalize ls[k]'(by rw [N0.out]; exact hlt) = o at *
      obtain ⟨ok, oi, oj, on, ox⟩ := o
      dsimp only at ck ci cj cx hx
      have VX := Lib.hid hx
      have i1 : (k : Int) < n0 := by omega
      have HCI := Lib.hid (fun (w' : World) (hb : Below wr.heap.size wr w') => And.intro ((hb.cell (World.block_lt_of_cell? _ _ ck)).trans ck) (And.intro ((hb.cell (World.block_lt_of_cell? _ _ ci)).trans ci) (And.intro ((hb.cell (World.block_lt_of_cell? _ _ cj)).trans cj) ((hb.cell (World.block_lt_of_cell? _ _ cx)).trans cx))))
      have hcx : ox.length ≤ 9223372036854775807 := hx.len
      clear hat hx HO hb
      obtain ⟨nx, hnx⟩ : ∃ n, ox.length = n := ⟨_, rfl⟩
      have NX := Lib.hid hnx
      rw [hnx] at cx VX HCI hcx
      clear hnx
      by_cases h300 : nx ≤ 300
      · have g1 : decide ((300 : Int) < (nx : Int)) = false := decide_eq_false (by omega)
        have HL := Lib.hid (rv_lenN HR.out.1 rfl)
        obtain ⟨nc, hnc⟩ : ∃ n, cur.length = n := ⟨_, rfl⟩
        have NC := Lib.hid hnc
        rw [hnc] at HL
        clear hnc
        by_cases h3000 : nc ≤ 3000
        · have g2 : decide ((3000 : Int) < (nc : Int)) = false := decide_eq_false (by omega)
          by_cases h2 : ok = 2
          · have g3 : (ok == 2) = true := by rw [beq_iff_eq]; exact h2
            clear h2
            go_wp2_with (go_at_call 19; refine HL.out.mono ?_; rintro e w3 ⟨rfl, bb⟩; obtain ⟨ck3, ci3, cj3, cx3⟩ := HCI.out _ bb; have R3 := Lib.hid (HR.out.1.below bb); have B3 := Lib.hid (below_add HR.out.2.2.2 bb HR.out.2.2.2.size); clear bb)
            have HI := Lib.hid (rv_del (R3.out.below ((Below.refl _ w3).drew)) (by rw [NC.out]; omega) oi oj)
            have B4 := Lib.hid (B3.out.trans ((Below.refl w.heap.size w3).drew))
            clear HL HCI
            go_still_tail 11, (by kernel_rfl)
            change wpList _ _ _ _ _ w3.drew
            generalize w3.drew = w4 at *
            go_wp2_with (go_at_call 17; refine HI.out.mono ?_; rintro e w5 ⟨rfl, rr, bb⟩; have R5 := Lib.hid rr; have B5 := Lib.hid (B4.out.trans bb); clear rr bb)
            go_roundw
            case rel => exact ⟨k + 1, delL cur oi oj, by omega, by go_num, Lib.hid ⟨R5.out, by have := delL_len cur oi oj; have := NC.out; omega, delL_code HR.out.2.2.1, B5.out⟩⟩
            case measure => simp [intOf]; omega
          · have g3 : (ok == 2) = false := by rw [beq_eq_false_iff_ne]; exact h2
            clear h2
            go_wp2_with (go_at_call 19; refine HL.out.mono ?_; rintro e w3 ⟨rfl, bb⟩; obtain ⟨ck3, ci3, cj3, cx3⟩ := HCI.out _ bb; have R3 := Lib.hid (HR.out.1.below bb); have B3 := Lib.hid (below_add HR.out.2.2.2 bb HR.out.2.2.2.size); have V3 := Lib.hid (VX.out.below bb); clear bb)
            have HI := Lib.hid (rv_ins (R3.out.below ((Below.refl _ w3).drew)) (by rw [NC.out, NX.out]; omega) oi _ (V3.out.below ((Below.refl _ w3).drew)))
            have B4 := Lib.hid (B3.out.trans ((Below.refl w.heap.size w3).drew))
            clear HL HCI
            go_still_tail 11, (by kernel_rfl)
            change wpList _ _ _ _ _ w3.drew
            generalize w3.drew = w4 at *
            go_wp2_with (go_at_call 16; refine HI.out.mono ?_; rintro e w5 ⟨rfl, rr, bb⟩; have R5 := Lib.hid rr; have B5 := Lib.hid (B4.out.trans bb); clear rr bb)
            go_roundw
            case rel => exact ⟨k + 1, insL cur ox oi, by omega, by go_num, Lib.hid ⟨R5.out, by have := insL_len cur ox oi; have := NC.out; have := NX.out; omega, insL_code HR.out.2.2.1, B5.out⟩⟩
            case measure => simp [intOf]; omega
        · have g2 : decide ((3000 : Int) < (nc : Int)) = true := decide_eq_true (by omega)
          go_wp2_with (go_at_call 19; refine HL.out.mono ?_; rintro e w3 ⟨rfl, bb⟩; have R3 := Lib.hid (HR.out.1.below bb); have B3 := Lib.hid (below_add HR.out.2.2.2 bb HR.out.2.2.2.size); clear bb)
          go_roundw
          case rel => exact ⟨k + 1, cur, by omega, by go_num, Lib.hid ⟨R3.out, HR.out.2.1, HR.out.2.2.1, B3.out⟩⟩
          case measure => simp [intOf]; omega
      · have g1 : decide ((300 : Int) < (nx : Int)) = true := decide_eq_true (by omega)
        go_wp2
        go_roundw
        case rel => exact ⟨k + 1, cur, by omega, by go_num, HR⟩
        case measure => simp [intOf]; omega
    · obtain rfl : k = n0 := by omega
      have g9 : decide ((k : Int) < (k : Int)) = false := decide_eq_false (by omega)
      clear hlt hk i0
      have HCUR := Lib.hid (And.intro HR.out.2.1 HR.out.2.2.1)
      obtain ⟨nn, hnn⟩ : ∃ n, nl cur = n := ⟨_, rfl⟩
      have hnl : nn ≤ 3300 := by have := nl_le cur; have := HCUR.out.1; omega
      have NN := Lib.hid hnn
      have HN := Lib.hid (rv_nlN HR.out.1 hnn)
      clear hnn
      go_wp2_with (go_at_call 20; refine HN.out.mono ?_; clear HN; rintro e w2 ⟨rfl, bb⟩; have R2 := Lib.hid (HR.out.1.below bb); have B2 := Lib.hid (below_add HR.out.2.2.2 bb HR.out.2.2.2.size); clear bb)
      go_loopw [86] (fun s wr => ∃ q : Nat, q ≤ nn + 1 ∧ s = .int .i64 q ∧ Hid (RV w.heap.size rb cur wr ∧ Below w.heap.size w wr)) (fun s _ => nn + 1 - (intOf s).toNat)
      case atStart => exact ⟨0, Nat.zero_le _, rfl, Lib.hid ⟨R2.out, B2.out⟩⟩
      case round =>
        rename_i wq
        obtain ⟨q, hq, rfl, HQ⟩ := hrel
        clear R2 B2
        have i0 : (0 : Int) ≤ (q : Int) := by omega
        by_cases hlt : q < nn + 1
        · have i1 : decide ((q : Int) < ((nn : Nat) : Int) + 1) = true := decide_eq_true (by omega)
          have QN := Lib.hid (show q ≤ nl cur by rw [NN.out]; omega)
          by_cases hq0 : q = 0
          · have g1 : decide ((0 : Int) < (q : Int)) = false := decide_eq_false (by omega)
            have g1n : decide (0 < q) = false := decide_eq_false (by omega)
            clear hq0
            go_wp2_with (first
              | (go_at_call 13; refine (rv_offset HQ.out.1 (by have := HCUR.out.1; omega) q QN.out).mono ?_; rintro e w3 ⟨o, rfl, st, bb⟩; have ST := Lib.hid st; have R3 := Lib.hid (HQ.out.1.below bb); have B3 := Lib.hid (below_add HQ.out.2 bb HQ.out.2.size); clear bb st)
              | (go_at_call 12; refine (rv_lineN R3.out (by have := HCUR.out.1; omega) (o : Nat) (by omega) (by have := ST.out.1; omega) (n := q) (by rw [Int.toNat_natCast]; exact ST.out.2.1)).mono ?_; rintro e w4 ⟨rfl, bb⟩; have R4 := Lib.hid (R3.out.below bb); have B4 := Lib.hid (below_add B3.out bb B3.out.size); clear bb))
            go_roundw
            case rel => exact ⟨q + 1, by omega, by go_num, Lib.hid ⟨R4.out, B4.out⟩⟩
            case measure => simp [intOf]; omega
          · have g1 : decide ((0 : Int) < (q : Int)) = true := decide_eq_true (by omega)
            have HQ0 := Lib.hid (show 0 < q by omega)
            have g1n : decide (0 < q) = true := decide_eq_true (by omega)
            clear hq0
            go_wp2_with (first
              | (go_at_call 13; refine (rv_offset HQ.out.1 (by have := HCUR.out.1; omega) q QN.out).mono ?_; rintro e w3 ⟨o, rfl, st, bb⟩; have ST := Lib.hid st; have u1 : 0 ≤ ((o : Nat) : Int) - 1 := (by have := (ST.out.2.2.2 HQ0.out).1; omega); have u2 : ((o : Nat) : Int) - 1 ≤ 3300 := (by have := ST.out.1; have := HCUR.out.1; omega); have R3 := Lib.hid (HQ.out.1.below bb); have B3 := Lib.hid (below_add HQ.out.2 bb HQ.out.2.size); clear bb st)
              | (go_at_call 12; refine (rv_lineN R3.out (by have := HCUR.out.1; omega) (o : Nat) (by omega) (by have := ST.out.1; omega) (n := q) (by rw [Int.toNat_natCast]; exact ST.out.2.1)).mono ?_; rintro e w4 ⟨rfl, bb⟩; have R4 := Lib.hid (R3.out.below bb); have B4 := Lib.hid (below_add B3.out bb B3.out.size); clear bb)
              | (go_at_call 10; refine (rv_atN R4.out (by have := HCUR.out.1; omega) (((o : Nat) : Int) - 1) (by have := (ST.out.2.2.2 HQ0.out).1; omega) (by have := ST.out.1; have := (ST.out.2.2.2 HQ0.out).1; omega) (x := 10) (by rw [show (((o : Nat) : Int) - 1).toNat = o - 1 by omega]; exact (ST.out.2.2.2 HQ0.out).2.1)).mono ?_; rintro e w5 ⟨rfl, bb⟩; have R5 := Lib.hid (R4.out.below bb); have B5 := Lib.hid (below_add B4.out bb B4.out.size); clear bb))
            go_roundw
            case rel => exact ⟨q + 1, by omega, by go_num, Lib.hid ⟨R5.out, B5.out⟩⟩
            case measure => simp [intOf]; omega
        · have i1 : decide ((q : Int) < ((nn : Nat) : Int) + 1) = false := decide_eq_false (by omega)
          clear hlt hq i0
          by_cases hin : 0 ≤ i ∧ i ≤ (cur.length : Nat)
          · obtain ⟨m, hm⟩ : ∃ n, nl (cur.take i.toNat) = n := ⟨_, rfl⟩
            have HM := Lib.hid hm
            have HIN := Lib.hid hin
            have hmn : m ≤ nn := by rw [← hm, ← NN.out, ← nl_all (Nat.le_refl cur.length)]; exact nl_take_mono cur (by omega)
            have HMN := Lib.hid hmn
            have um1 : ((m : Nat) : Int) + 1 ≤ 3301 := by omega
            clear hm hin hmn
            by_cases hlast : m + 1 ≤ nn
            · go_wp2_with (first
                | (go_at_call 12; refine (rv_lineN HQ.out.1 (by have := HCUR.out.1; omega) i HIN.out.1 HIN.out.2 HM.out).mono ?_; rintro e w3 ⟨rfl, bb⟩; have R3 := Lib.hid (HQ.out.1.below bb); have B3 := Lib.hid (below_add HQ.out.2 bb HQ.out.2.size); clear bb)
                | (go_at_call 13; (with_reducible refine (rv_offset R3.out (by have := HCUR.out.1; omega) m (by rw [NN.out]; exact HMN.out)).mono ?_); rintro e w4 ⟨o, rfl, st, bb⟩; have d1 : decide (i < ((o : Nat) : Int)) = false := decide_eq_false (by have := starts_le st HM.out; have := HIN.out; omega); have R4 := Lib.hid (R3.out.below bb); have B4 := Lib.hid (below_add B3.out bb B3.out.size); clear bb st)
                | (go_at_call 13; (with_reducible refine (rv_offsetN R4.out (by have := HCUR.out.1; omega) (((m : Nat) : Int) + 1) (n := m + 1) (by omega) (by rw [NN.out]; exact hlast)).mono ?_); rintro e w5 ⟨o2, rfl, st, bb⟩; have d2 : decide (((o2 : Nat) : Int) ≤ i) = false := decide_eq_false (by have := starts_gt st HM.out; have := HIN.out; omega); have B5 := Lib.hid (below_add B4.out bb B4.out.size); clear bb st)
                | (go_at_call 9; refine (known10_any _).mono ?_; rintro e w6 ⟨rfl, bb⟩; have B99 := Lib.hid (below_add B5.out bb B5.out.size); clear bb))
              go_ret
              exact ⟨rfl, B99.out⟩
            · go_wp2_with (first
                | (go_at_call 12; refine (rv_lineN HQ.out.1 (by have := HCUR.out.1; omega) i HIN.out.1 HIN.out.2 HM.out).mono ?_; rintro e w3 ⟨rfl, bb⟩; have R3 := Lib.hid (HQ.out.1.below bb); have B3 := Lib.hid (below_add HQ.out.2 bb HQ.out.2.size); clear bb)
                | (go_at_call 13; (with_reducible refine (rv_offset R3.out (by have := HCUR.out.1; omega) m (by rw [NN.out]; exact HMN.out)).mono ?_); rintro e w4 ⟨o, rfl, st, bb⟩; have d1 : decide (i < ((o : Nat) : Int)) = false := decide_eq_false (by have := starts_le st HM.out; have := HIN.out; omega); have R4 := Lib.hid (R3.out.below bb); have B4 := Lib.hid (below_add B3.out bb B3.out.size); clear bb st)
                | (go_at_call 13; (with_reducible refine (rv_offsetNo R4.out (((m : Nat) : Int) + 1) (by rw [NN.out]; omega)).mono ?_); rintro e w5 ⟨rfl, bb⟩; have B5 := Lib.hid (below_add B4.out bb B4.out.size); clear bb)
                | (go_at_call 9; refine (known10_any _).mono ?_; rintro e w6 ⟨rfl, bb⟩; have B99 := Lib.hid (below_add B5.out bb B5.out.size); clear bb))
              go_ret
              exact ⟨rfl, B99.out⟩
          · obtain ⟨nc, hnc⟩ : ∃ n, cur.length = n := ⟨_, rfl⟩
            have NC := Lib.hid hnc
            rw [hnc] at hin
            clear hnc
            have HIN := Lib.hid hin
            by_cases hneg : i < 0
            · have d1 : decide (i < 0) = true := decide_eq_true hneg
              clear hin
              go_wp2_with (first
                | (go_at_call 12; refine (rv_lineofNo HQ.out.1 i (by rw [NC.out]; exact HIN.out)).mono ?_; rintro e w3 ⟨rfl, bb⟩; have B3 := Lib.hid (below_add HQ.out.2 bb HQ.out.2.size); clear bb)
                | (go_at_call 9; refine (known10_any _).mono ?_; rintro e w6 ⟨rfl, bb⟩; have B99 := Lib.hid (below_add B3.out bb B3.out.size); clear bb))
              go_ret
              exact ⟨rfl, B99.out⟩
            · have d1 : decide (i < 0) = false := decide_eq_false hneg
              have d2 : decide (((nc : Nat) : Int) < i) = true := decide_eq_true (by omega)
              clear hin hneg
              go_wp2_with (first
                | (go_at_call 12; refine (rv_lineofNo HQ.out.1 i (by rw [NC.out]; exact HIN.out)).mono ?_; rintro e w3 ⟨rfl, bb⟩; have R3 := Lib.hid (HQ.out.1.below bb); have B3 := Lib.hid (below_add HQ.out.2 bb HQ.out.2.size); clear bb)
                | (go_at_call 19; refine (rv_lenN R3.out NC.out).mono ?_; rintro e w4 ⟨rfl, bb⟩; have B4 := Lib.hid (below_add B3.out bb B3.out.size); clear bb)
                | (go_at_call 9; refine (known10_any _).mono ?_; rintro e w6 ⟨rfl, bb⟩; have B99 := Lib.hid (below_add B4.out bb B4.out.size); clear bb))
              go_ret
              exact ⟨rfl, B99.out⟩
theorem lines_walk (v0 : Value) (ls : List OpL) (i : Int) (w : World) (h0 : Orow w v0 ls) :
    Calls Try.prog 4 #[v0, .int .i64 i] w fun e w' => e = .returned (.bool true) ∧ Below w.heap.size w w' := by
  by_cases hl : ls.length ≤ 40
  · exact lines_main v0 ls i w h0 hl
  · exact lines_long v0 ls i w h0 hl
end Go.Proofs.Ytjgfgpkaeddjhaa
