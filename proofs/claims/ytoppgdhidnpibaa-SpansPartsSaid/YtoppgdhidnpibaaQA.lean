
import Derived.Test.YtoppgdhidnpibaaKP
import Derived.StillTailTactics
/- QA: SpansParts -/
namespace Go.Proofs.Ytoppgdhidnpibaa
open Go.RowKit
set_option linter.unusedVariables false
set_option maxRecDepth 100000

theorem flat_at (A R : List Ck) (x : Ck) (t : Nat) (ht : t < x.n) : (flat (A ++ x :: R)).getD (lnS A + t) 0 = x.d := by
  have h1 : (flat A).length = lnS A := flat_len A
  rw [flat_app, flat_cons, List.getD_eq_getElem?_getD, List.getElem?_append_right (by omega), h1, Nat.add_sub_cancel_left, List.getElem?_append_left (by simpa using ht)]
  simp [ht]
theorem part_at {l : List Int} {i j : Int} (hr : rcB l.length i j = true) {A R : List Ck} {x : Ck} (hp : rl (part l i j) = A ++ x :: R) (t : Nat) (ht : t < x.n) : atE l (i + (lnS A + t : Nat)) = 0 ∧ atV l (i + (lnS A + t : Nat)) = x.d := by
  obtain ⟨a1, a2, a3⟩ := (rcB_iff _ _ _).1 hr
  have hl : (part l i j).length = j.toNat - i.toNat := by unfold part; rw [List.length_drop, List.length_take]; omega
  have hf : part l i j = flat (A ++ x :: R) := by rw [← hp, rl_flat]
  have hn : lnS A + t < j.toNat - i.toNat := by
    rw [← hl, hf, flat_len, lnS_app, lnS_cons]; omega
  have hg := flat_at A R x t ht
  rw [← hf] at hg
  unfold part at hg
  rw [List.getD_eq_getElem?_getD, List.getElem?_drop, List.getElem?_take_of_lt (by omega)] at hg
  unfold atE atV
  rw [if_pos (by omega), if_pos (by omega), List.getD_eq_getElem?_getD, show (i + (lnS A + t : Nat)).toNat = i.toNat + (lnS A + t) by omega]
  exact ⟨rfl, hg⟩
theorem part_all {l : List Int} {i j : Int} (hr : rcB l.length i j = true) : i + (lnS (rl (part l i j)) : Nat) = j := by
  obtain ⟨a1, a2, a3⟩ := (rcB_iff _ _ _).1 hr
  have hl : (part l i j).length = j.toNat - i.toNat := by unfold part; rw [List.length_drop, List.length_take]; omega
  rw [← flat_len, rl_flat, hl]; omega
theorem cnt_step (l : List Int) (i j : Int) (xs : List Rw) {k : Nat} (hx : xs.length ≤ 100) (h : cntR l ≤ 101 * k) : cntR (spL l i j xs) ≤ 101 * (k + 1) := by
  have := spL_cnt l i j xs
  omega
set_option maxHeartbeats 2000000 in
theorem parts_long (v0 : Value) (ls : List OpL) (i j : Int) (w : World) (h0 : Orow w v0 ls) (hl : ¬ ls.length ≤ 40) :
    Calls Try.prog 7 #[v0, .int .i64 i, .int .i64 j] w fun e w' => e = .returned (.bool true) ∧ Below w.heap.size w w' := by
  obtain ⟨a0, c0, rfl⟩ := h0.shape
  have hlen := h0.len
  have g0 : decide ((40 : Int) < (ls.length : Int)) = true := decide_eq_true (by omega)
  clear h0 hl
  go_enter Try.func7, Try.ntmps7
  go_wp2_with (first
    | (go_at_call 19; refine (rv_new (B := w.heap.size) w (Nat.le_refl _)).mono ?_; rintro e w1 ⟨rb, rfl, q1, bb⟩; have B1 := Lib.hid bb; clear q1 bb)
    | (go_at_call 8; refine (known11_any _).mono ?_; rintro e w2 ⟨rfl, bb⟩; have B99 := Lib.hid (below_add B1.out bb B1.out.size); clear bb))
  go_ret
  exact ⟨rfl, B99.out⟩
set_option maxHeartbeats 8000000 in
theorem parts_main (v0 : Value) (ls : List OpL) (i j : Int) (w : World) (h0 : Orow w v0 ls) (hl : ls.length ≤ 40) :
    Calls Try.prog 7 #[v0, .int .i64 i, .int .i64 j] w fun e w' => e = .returned (.bool true) ∧ Below w.heap.size w w' := by
  obtain ⟨a0, c0, rfl⟩ := h0.shape
  have H0 := Lib.hid h0
  obtain ⟨n0, hn0⟩ : ∃ n, ls.length = n := ⟨_, rfl⟩
  have N0 := Lib.hid hn0
  rw [hn0] at H0 hl ⊢
  have g0 : decide ((40 : Int) < (n0 : Int)) = false := decide_eq_false (by omega)
  clear h0 hn0
  go_enter Try.func7, Try.ntmps7
  go_wp2_with (go_at_call 19; refine (rv_new (B := w.heap.size) w (Nat.le_refl _)).mono ?_; rintro e w1 ⟨rb, rfl, q1, bb⟩; have R1 := Lib.hid q1; have B1 := Lib.hid bb; clear q1 bb)
  go_loopw [31] (fun s wr => ∃ (k : Nat) (cur : List Int), k ≤ n0 ∧ s = .int .i64 k ∧ Hid (RV w.heap.size rb cur wr ∧ cntR cur ≤ 101 * k ∧ Below w.heap.size w wr)) (fun s _ => n0 - (intOf s).toNat)
  case atStart => exact ⟨0, [], Nat.zero_le _, rfl, Lib.hid ⟨R1.out, by rw [cntR_nil]; exact Nat.zero_le _, B1.out⟩⟩
  case round =>
    rename_i wr
    obtain ⟨k, cur, hk, rfl, HR⟩ := hrel
    have i0 : (0 : Int) ≤ (k : Int) := by omega
    by_cases hlt : k < n0
    · obtain ⟨b, off, rfl, -, hcap, hmx, hb, hat⟩ := H0.out.opn (by rw [N0.out]; omega)
      obtain ⟨xa, xc, -, ci, cj, cx, -, -, hx⟩ := hat k (by rw [N0.out]; exact hlt)
      generalize ls[k]'(by rw [N0.out]; exact hlt) = o at *
      obtain ⟨ok, oi, oj, ox, ob, op⟩ := o
      dsimp only at ci cj cx hx
      have VX := Lib.hid (rowB_arg (z := wr.heap.size) hx (Nat.le_refl _) HR.out.2.2.drew HR.out.2.2.drew.size)
      have i1 : (k : Int) < n0 := by omega
      replace ci := (HR.out.2.2.cell (World.block_lt_of_cell? _ _ ci)).trans ci
      replace cj := (HR.out.2.2.cell (World.block_lt_of_cell? _ _ cj)).trans cj
      replace cx := (HR.out.2.2.cell (World.block_lt_of_cell? _ _ cx)).trans cx
      have hcx : ox.length ≤ 9223372036854775807 := hx.len
      clear hat hx hb
      have HSP := Lib.hid (fun hq => rv_splice HR.out.1 (Below.refl wr.heap.size wr).drew hq oi oj _ VX.out)
      have HST := Lib.hid (fun h => cnt_step cur oi oj ox (k := k) h HR.out.2.1)
      have HB9 := Lib.hid HR.out.2.2.drew
      have HCQ : Hid (cntR cur ≤ 4040) := Lib.hid (by have := HR.out.2.1; omega)
      obtain ⟨L2, hL2⟩ : ∃ L2, spL cur oi oj ox = L2 := ⟨_, rfl⟩
      obtain ⟨E2, hE2⟩ : ∃ E2, spE cur oi oj ox = E2 := ⟨_, rfl⟩
      rw [hL2] at HSP HST
      rw [hE2] at HSP
      clear hL2 hE2
      obtain ⟨nx, hnx⟩ : ∃ n, ox.length = n := ⟨_, rfl⟩
      rw [hnx] at cx HSP HST hcx
      clear hnx VX
      by_cases h100 : nx ≤ 100
      · have g1 : decide ((nx : Int) ≤ (100 : Int)) = true := decide_eq_true (by omega)
        have HSP2 := Lib.hid (HSP.out (by have := HCQ.out; omega))
        clear HSP
        go_upto_region 8 with fail
        go_still_tail 16, (by kernel_rfl)
        change wpList _ _ _ _ _ wr.drew
        generalize wr.drew = w4 at *
        go_wp2_with (go_at_call 12; refine HSP2.out.mono ?_; rintro e w5 ⟨rfl, rr, bb⟩; have R5 := Lib.hid rr; have B5 := Lib.hid (HB9.out.trans bb); clear rr bb)
        go_roundw
        case rel => exact ⟨k + 1, L2, by omega, by go_num, Lib.hid ⟨R5.out, HST.out h100, B5.out⟩⟩
        case measure => simp [intOf]; omega
      · have g1 : decide ((nx : Int) ≤ (100 : Int)) = false := decide_eq_false (by omega)
        go_wp2
        go_roundw
        case rel => exact ⟨k + 1, cur, by omega, by go_num, Lib.hid ⟨HR.out.1, by have := HR.out.2.1; omega, HR.out.2.2⟩⟩
        case measure => simp [intOf]; omega
    · obtain rfl : k = n0 := by omega
      have g9 : decide ((k : Int) < (k : Int)) = false := decide_eq_false (by omega)
      clear hlt hk i0
      have R9 := Lib.hid HR.out.1
      have B9 := Lib.hid HR.out.2.2
      have HCQ : Hid (cntR cur ≤ 4040) := Lib.hid (by have := HR.out.2.1; omega)
      clear HR R1 B1
      cases hr : rcB cur.length i j with
      | false =>
        have HO := Lib.hid (rv_over_no R9.out i j hr)
        clear hr
        go_wp2_with (first
          | (go_at_call 10; refine HO.out.mono ?_; rintro e w6 ⟨rfl, bb⟩; have B6 := Lib.hid (below_add B9.out bb B9.out.size); clear bb)
          | (go_at_call 8; refine (known11_any _).mono ?_; rintro e w7 ⟨rfl, bb⟩; have B99 := Lib.hid (below_add B6.out bb B6.out.size); clear bb))
        go_ret
        exact ⟨rfl, B99.out⟩
      | true =>
        obtain ⟨a1, a2, a3⟩ := (rcB_iff _ _ _).1 hr
        have hmx := R9.out.2.1
        obtain ⟨i', hi'⟩ : ∃ k : Nat, i = k := ⟨i.toNat, by omega⟩
        obtain ⟨j', hj'⟩ : ∃ k : Nat, j = k := ⟨j.toNat, by omega⟩
        have hov := rv_over R9.out (by have := HCQ.out; omega) i' j' (by omega) (by omega)
        rw [← hi', ← hj'] at hov
        have HO := Lib.hid hov
        have HPA := Lib.hid (fun A R x (hp : rl (part cur i j) = A ++ x :: R) t ht => part_at hr hp t ht)
        have HPE := Lib.hid (part_all hr)
        have hpl := HPE.out
        have u1 : 0 ≤ i := a1
        have u2 : i ≤ 536870912 := by omega
        have u3 : j ≤ 536870912 := by omega
        have u4 : i ≤ j := a2
        obtain ⟨P, hP⟩ : ∃ P, rl (part cur i j) = P := ⟨_, rfl⟩
        have HPN : Hid ((rl (part cur i j)).length ≤ cntR cur) := Lib.hid (cnt_part cur i j)
        rw [hP] at HO HPA HPE hpl HPN
        clear hr a1 a2 a3 hmx hi' hj' hov hP
        by_cases h3 : j - i ≤ 3000
        · have g3 : decide ((3000 : Int) < j - i) = false := decide_eq_false (by omega)
          go_wp2_with (go_at_call 10; refine HO.out.mono ?_; rintro e w6 ⟨v, b, rfl, -, ho, bb⟩; have B6 := Lib.hid (below_add B9.out bb B9.out.size); have R6 := Lib.hid (R9.out.below bb); have V6 := Lib.hid (Row.of_owns (C := CkC) ho).1; clear bb ho; obtain ⟨va, vc, rfl⟩ := V6.out.shape)
          have hpn : P.length ≤ 5000 := by have := HPN.out; have := HCQ.out; omega
          go_loopw [11, 78] (fun s11 s78 wr => ∃ m : Nat, m ≤ P.length ∧ s78 = .int .i64 m ∧ s11 = .int .i64 (i + (lnS (P.take m) : Nat)) ∧ Hid (Below w6.heap.size w6 wr)) (fun _ s78 _ => P.length - (intOf s78).toNat)
          case atStart => exact ⟨0, Nat.zero_le _, rfl, by rw [List.take_zero]; show _ = Value.int .i64 (i + 0); rw [Int.add_zero], Lib.hid (Below.refl _ _)⟩
          case round =>
            rename_i wr
            obtain ⟨m, hm, rfl, rfl, HW⟩ := hrel
            by_cases hlt : m < P.length
            · obtain ⟨b, off, rfl, -, -, -, -, -, -⟩ := Row.opened V6.out (by omega)
              obtain ⟨x0, x1⟩ := ck_at V6.out hlt
              replace x0 := (HW.out.cell (World.block_lt_of_cell? _ _ x0)).trans x0
              replace x1 := (HW.out.cell (World.block_lt_of_cell? _ _ x1)).trans x1
              have hsp : P = P.take m ++ P[m] :: P.drop (m + 1) := by
                rw [← List.drop_eq_getElem_cons hlt, List.take_append_drop]
              have HA := Lib.hid (fun (t : Nat) (ht : t < (P[m]'hlt).n) => HPA.out (P.take m) (P.drop (m + 1)) (P[m]'hlt) hsp t ht)
              have hln : lnS (P.take m) + P[m].n ≤ 3000 := by
                have h1 : lnS P = lnS (P.take m ++ P[m] :: P.drop (m + 1)) := by rw [← hsp]
                rw [lnS_app, lnS_cons] at h1
                omega
              have HNX := Lib.hid (show lnS (P.take (m + 1)) = lnS (P.take m) + P[m].n by rw [List.take_succ_eq_append_getElem hlt, lnS_app, lnS_cons]; rfl)
              have HR7 := Lib.hid (R6.out.below HW.out)
              have HB7 := Lib.hid (below_add B6.out HW.out B6.out.size)
              clear hsp
              obtain ⟨x, hx⟩ : ∃ x, P[m] = x := ⟨_, rfl⟩
              rw [hx] at HA hln HNX x0 x1
              obtain ⟨S, hS⟩ : ∃ S, lnS (P.take m) = S := ⟨_, rfl⟩
              rw [hS] at HA hln HNX ⊢
              clear hx hS
              obtain ⟨xn, xd⟩ := x
              dsimp only at HA hln HNX x0 x1
              go_wp2
              have CB := Lib.hid (cb_new wr 44 #[.int .i64 (xn : Nat), .int .i64 xd])
              have R7 := Lib.hid (HR7.out.alloc (.cells #[.int .i64 (xn : Nat), .int .i64 xd] 44))
              have B7 := Lib.hid (HB7.out.alloc HB7.out.size (.cells #[.int .i64 (xn : Nat), .int .i64 xd] 44))
              have W7 := Lib.hid (HW.out.alloc HW.out.size (.cells #[.int .i64 (xn : Nat), .int .i64 xd] 44))
              clear HR7 HB7 x0 x1
              obtain ⟨z, hz⟩ : ∃ z, wr.heap.size = z := ⟨_, rfl⟩
              rw [hz] at CB ⊢
              generalize wr.alloc (.cells #[.int .i64 (xn : Nat), .int .i64 xd] 44) = w7 at *
              clear HW hz
              go_loopw [11, 84] (fun s11 s84 wv => ∃ t : Nat, t ≤ xn ∧ s84 = .int .i64 t ∧ s11 = .int .i64 (i + ((S + t : Nat) : Int)) ∧ Hid (Below w7.heap.size w7 wv)) (fun _ s84 _ => xn - (intOf s84).toNat)
              case atStart => exact ⟨0, Nat.zero_le _, rfl, rfl, Lib.hid (Below.refl _ _)⟩
              case round =>
                obtain ⟨t, ht, rfl, rfl, HV⟩ := hrel
                have CV := Lib.hid (CB.out.below HV.out)
                have RV7 := Lib.hid (R7.out.below HV.out)
                have BV := Lib.hid (below_add B7.out HV.out B7.out.size)
                by_cases hlx : t < xn
                · obtain ⟨e1, e2⟩ := HA.out t hlx
                  have y1 : i + ((S + t : Nat) : Int) + 1 = i + ((S + (t + 1) : Nat) : Int) := by omega
                  have y2 : i + ((S + t : Nat) : Int) + 1 ≤ 600000000 := by omega
                  have y3 : 0 ≤ i + ((S + t : Nat) : Int) := by omega
                  have HAT := Lib.hid (rv_at RV7.out (by have := HCQ.out; omega) (i + ((S + t : Nat) : Int)))
                  rw [e1, e2] at HAT
                  clear e1 e2
                  obtain ⟨q, hq⟩ : ∃ q, i + ((S + t : Nat) : Int) = q := ⟨_, rfl⟩
                  rw [hq] at HAT y1 y2 y3 ⊢
                  clear hq
                  go_wp2_with (go_at_call 9; refine HAT.out.mono ?_; rintro e w8 ⟨rfl, bb⟩; have z1 : w8.cell? ⟨z, 1, none⟩ = some (.int .i64 xd) := (CV.out.below bb).cell 1; have H8 := Lib.hid (below_add HV.out bb HV.out.size); clear bb)
                  go_roundw
                  case rel => exact ⟨t + 1, by omega, by go_num, by congr 1, H8⟩
                  case measure => simp [intOf]; omega
                · obtain rfl : t = xn := by omega
                  have z0 := CV.out.cell 0
                  go_wp2
                  go_roundw
                  case rel => exact ⟨m + 1, by omega, by go_num, by rw [HNX.out], Lib.hid (below_add W7.out HV.out W7.out.size)⟩
                  case measure => simp [intOf]; omega
            · obtain rfl : m = P.length := by omega
              have hpe : i + (lnS (P.take P.length) : Nat) = j := by rw [List.take_length]; exact hpl
              rw [hpe]
              have HB9 := Lib.hid (below_add B6.out HW.out B6.out.size)
              go_wp2_with (go_at_call 8; refine (known11_any _).mono ?_; rintro e w9 ⟨rfl, bb⟩; have B99 := Lib.hid (below_add HB9.out bb HB9.out.size); clear bb)
              go_ret
              exact ⟨rfl, B99.out⟩
        · have g3 : decide ((3000 : Int) < j - i) = true := decide_eq_true (by omega)
          go_wp2_with (first
            | (go_at_call 10; refine HO.out.mono ?_; rintro e w6 ⟨v, b, rfl, -, -, bb⟩; have B6 := Lib.hid (below_add B9.out bb B9.out.size); clear bb)
            | (go_at_call 8; refine (known11_any _).mono ?_; rintro e w7 ⟨rfl, bb⟩; have B99 := Lib.hid (below_add B6.out bb B6.out.size); clear bb))
          go_ret
          exact ⟨rfl, B99.out⟩
theorem parts_walk (v0 : Value) (ls : List OpL) (i j : Int) (w : World) (h0 : Orow w v0 ls) :
    Calls Try.prog 7 #[v0, .int .i64 i, .int .i64 j] w fun e w' => e = .returned (.bool true) ∧ Below w.heap.size w w' := by
  by_cases hl : ls.length ≤ 40
  · exact parts_main v0 ls i j w h0 hl
  · exact parts_long v0 ls i j w h0 hl
end Go.Proofs.Ytoppgdhidnpibaa
