
import Derived.Test.YteodfbkfpboehaaES
/- ET: ParaParts -/
namespace Go.Proofs.Yteodfbkfpboehaa
open Go.RowKit Go.Shelf
set_option linter.unusedVariables false
set_option maxRecDepth 100000

def fold6 (xs : List OpL) (n : Nat) : List (List Att) := (xs.take n).foldl st6 []
theorem fold6_next {xs : List OpL} {n : Nat} (h : n < xs.length) : fold6 xs (n + 1) = st6 (fold6 xs n) xs[n] := fold_take st6 [] h
theorem wrap_ok {n : Int} (h0 : -9223372036854775808 ≤ n) (h1 : n ≤ 9223372036854775807) : IntKind.i64.wrap n = n := by rw [IntKind.wrap_i64]; omega
theorem getD_app_left {P Q : List (List Att)} {n : Nat} (h : n < P.length) : (P ++ Q).getD n [] = P.getD n [] := by
  simp only [List.getD_eq_getElem?_getD]; rw [List.getElem?_append_left h]
theorem getD_app_right {P Q : List (List Att)} (m : Nat) : (P ++ Q).getD (P.length + m) [] = Q.getD m [] := by
  simp only [List.getD_eq_getElem?_getD]; rw [List.getElem?_append_right (Nat.le_add_right _ _), Nat.add_sub_cancel_left]
set_option maxHeartbeats 4000000 in
theorem parts_walk (v : Value) (xs : List OpL) (i j k : Int) (w : World) (h : Orow w v xs) :
    Calls Try.prog 6 #[v, .int .i64 i, .int .i64 j, .int .i64 k] w fun e w' => e = .returned (.bool true) ∧ Below w.heap.size w w' := by
  obtain ⟨a, cap, rfl⟩ := h.shape
  have hll := h.len
  have HN := Lib.hid (rx_new (X := fun q => w.heap.size ≤ q) w (fun k hk => hk))
  have HV := Lib.hid h
  clear h
  by_cases hs : smallL xs
  · have HS := Lib.hid hs
    have HSM := Lib.hid (fun W hb => small_any _ xs W (HV.out.below (w' := W) hb))
    rw [decide_eq_true hs] at HSM
    clear hs
    go_enter Try.func6, Try.ntmps6
    go_wp2_with (first
      | (go_at_call 17; refine HN.out.mono ?_; clear HN; rintro e w1 ⟨rb, rfl, q1, bb⟩; have L1 := Lib.hid (LI.mk q1 bb PB.nil); clear q1 bb)
      | (go_at_call 7; refine (HSM.out _ L1.out.b).mono ?_; rintro e w2 ⟨rfl, bb⟩; have L2 := Lib.hid (L1.out.below bb); clear bb L1 HSM))
    go_loopw [38] (fun s38 wr => ∃ n : Nat, n ≤ xs.length ∧ s38 = .int .i64 n ∧ Hid (LI w rb n (fold6 xs n) wr)) (fun s38 _ => xs.length - (intOf s38).toNat)
    case atStart => exact ⟨0, Nat.zero_le _, rfl, L2⟩
    case round =>
      obtain ⟨n, hn, rfl, HR⟩ := hrel
      clear L2
      obtain ⟨wo, hwo⟩ : ∃ x : World, x = wr := ⟨_, rfl⟩
      subst hwo
      by_cases hlt : n < xs.length
      · obtain ⟨b, off, ha, -, -, -, hbl, hat⟩ := HV.out.opn (by omega)
        subst ha
        obtain ⟨la, lc, xa, xc, c0, c1, c2, c3, c4, hN, hC⟩ := hat n hlt
        have hbw := HR.out.b
        have hso := HS.out.2 xs[n] (List.getElem_mem hlt)
        have hst := fold6_next hlt
        have h60 := HS.out.1
        have HK := Lib.hid (show n ≤ 100 by omega)
        obtain ⟨o, ho⟩ : ∃ o, xs[n] = o := ⟨_, rfl⟩
        rw [ho] at c0 c1 c2 c3 c4 hN hC hso hst
        have HST := Lib.hid hst
        have HSO := Lib.hid hso
        have HNR := Lib.hid hN
        have HCR := Lib.hid hC
        have c0 : wo.cell? ⟨b, off + n * 5, none⟩ = some (.int .i64 o.k) := (hbw.cell hbl).trans c0
        have c1 : wo.cell? ⟨b, off + n * 5 + 1, none⟩ = some (.int .i64 o.i) := (hbw.cell hbl).trans c1
        have c2 : wo.cell? ⟨b, off + n * 5 + 2, none⟩ = some (.int .i64 o.m) := (hbw.cell hbl).trans c2
        have c3 : wo.cell? ⟨b, off + n * 5 + 3, none⟩ = some (.slice la o.L.length lc) := (hbw.cell hbl).trans c3
        have c4 : wo.cell? ⟨b, off + n * 5 + 4, none⟩ = some (.slice xa o.x.length xc) := (hbw.cell hbl).trans c4
        have HL := Lib.hid (fun cs => HR.out.below (below_alloc1 wo (.cells cs 25)))
        clear hat ho hN hC hbw hso hst h60
        by_cases k2 : o.k = 2
        · go_wp2_with (go_at_call 12; (with_reducible refine ((HL.out _).del HK.out o.i o.m).mono ?_); rintro e w5 ⟨rfl, q⟩; have L5 := Lib.hid q; clear q)
          go_roundw
          case rel => exact ⟨n + 1, hlt, by go_num, by rw [HST.out, st6, if_pos k2]; exact L5⟩
          case measure => simp only [intOf]; omega
        · by_cases k3 : o.k = 3
          · go_wp2_with (go_at_call 13; (with_reducible refine ((HL.out _).pat HK.out HSO.out HCR.out).mono ?_); rintro e w5 ⟨rfl, q⟩; have L5 := Lib.hid q; clear q)
            go_roundw
            case rel => exact ⟨n + 1, hlt, by go_num, by rw [HST.out, st6, if_neg k2, if_pos k3]; exact L5⟩
            case measure => simp only [intOf]; omega
          · go_wp2_with (go_at_call 11; (with_reducible refine ((HL.out _).ins HK.out HSO.out HNR.out).mono ?_); rintro e w5 ⟨rfl, q⟩; have L5 := Lib.hid q; clear q)
            go_roundw
            case rel => exact ⟨n + 1, hlt, by go_num, by rw [HST.out, st6, if_neg k2, if_neg k3]; exact L5⟩
            case measure => simp only [intOf]; omega
      · obtain rfl : n = xs.length := by omega
        obtain ⟨l, hl⟩ : ∃ l, fold6 xs xs.length = l := ⟨_, rfl⟩
        rw [hl] at HR
        have L3 := Lib.hid (HR.out.le HS.out.1)
        clear HR hl HS
        have H1 := Lib.hid (fun W (h : LI w rb 60 l W) => h.over (by decide) i j)
        have H2 := Lib.hid (fun W (h : LI w rb 60 l W) => h.over (by decide) j k)
        have H3 := Lib.hid (fun W (h : LI w rb 60 l W) => h.over (by decide) i k)
        rcases mrE_two l.length i j with e1 | e1
        · rcases mrE_two l.length j k with e2 | e2
          · have e3 := (parts_side e1 e2).1
            have p3 : ovL l i k = ovL l i j ++ ovL l j k := by unfold ovL; rw [if_pos e1, if_pos e2, if_pos e3]; exact (parts_side e1 e2).2
            have HG := Lib.hid (fun (n : Nat) (hn : n < (ovL l i k).length) => part_get e3 (n := n) (by unfold ovL at hn; rwa [if_pos e3] at hn))
            have hov : ovL l i k = part l i k := by unfold ovL; rw [if_pos e3]
            rw [← hov] at HG
            have hlen : (ovL l i k).length ≤ 10000 := by
              have := L3.out.p.n; obtain ⟨q1, q2, q3⟩ := mrE_iff.1 e3
              rw [hov, part_len e3]; omega
            have HI0 := Lib.hid (mrE_iff.1 e3)
            have HLN := Lib.hid (show (ovL l i k).length = k.toNat - i.toNat ∧ l.length ≤ 10000 by rw [hov, part_len e3]; have := L3.out.p.n; exact ⟨rfl, by omega⟩)
            rw [e1] at H1
            rw [e2] at H2
            rw [e3] at H3
            obtain ⟨P1, hP1⟩ : ∃ P, ovL l i j = P := ⟨_, rfl⟩
            obtain ⟨P2, hP2⟩ : ∃ P, ovL l j k = P := ⟨_, rfl⟩
            rw [hP1] at H1 p3
            rw [hP2] at H2 p3
            rw [p3] at H3 HG hlen HLN
            obtain ⟨N1, hN1⟩ : ∃ n, P1.length = n := ⟨_, rfl⟩
            obtain ⟨N2, hN2⟩ : ∃ n, P2.length = n := ⟨_, rfl⟩
            obtain ⟨N3, hN3⟩ : ∃ n, (P1 ++ P2).length = n := ⟨_, rfl⟩
            have h3 : N3 = N1 + N2 := by rw [← hN3, List.length_append, hN1, hN2]
            rw [hN1] at H1
            rw [hN2] at H2
            rw [hN3] at H3 hlen HG HLN
            have hw3 : IntKind.i64.wrap ((N1 : Int) + (N2 : Int)) = (N3 : Int) := by rw [wrap_ok (by omega) (by omega)]; omega
            have HN3 := Lib.hid (And.intro hN1 (And.intro hN2 hN3))
            have H3E := Lib.hid h3
            have HLE := Lib.hid hlen
            clear e1 e2 e3 p3 hov hP1 hP2 hN1 hN2 hN3 h3 hlen
            go_wp2_with (first
              | (go_at_call 10; (with_reducible refine (H1.out _ L3.out).mono ?_); rintro e w3 ⟨a1, c1, rfl, q, bb⟩; have A1 := Lib.hid q; have L4 := Lib.hid (L3.out.below bb); clear q bb L3 H1)
              | (go_at_call 10; (with_reducible refine (H2.out _ L4.out).mono ?_); rintro e w4 ⟨a2, c2, rfl, q, bb⟩; have A2 := Lib.hid q; have A1 := Lib.hid (A1.out.below bb); have L5 := Lib.hid (L4.out.below bb); clear q bb L4 H2)
              | (go_at_call 10; (with_reducible refine (H3.out _ L5.out).mono ?_); rintro e w5 ⟨a3, c3, rfl, q, bb⟩; have A3 := Lib.hid q; have A2 := Lib.hid (A2.out.below bb); have A1 := Lib.hid (A1.out.below bb); have L6 := Lib.hid (L5.out.below bb); clear q bb L5 H3))
            clear hw3
            go_loopw [111] (fun s111 wr => ∃ n : Nat, n ≤ N3 ∧ s111 = .int .i64 n ∧ Hid (Below w5.heap.size w5 wr)) (fun s111 _ => N3 - (intOf s111).toNat)
            case atStart => exact ⟨0, Nat.zero_le _, rfl, Lib.hid (Below.refl _ _)⟩
            case round =>
              obtain ⟨n, hn, rfl, HB⟩ := hrel
              obtain ⟨wi, hwi⟩ : ∃ x : World, x = wr := ⟨_, rfl⟩
              subst hwi
              by_cases hlt : n < N3
              · have hlo : n < (P1 ++ P2).length := by rw [HN3.out.2.2]; exact hlt
                obtain ⟨b3, o3, ha3, -, -, -, hb3, hat3⟩ := A3.out.opn (by omega)
                subst ha3
                obtain ⟨sa, sc, hc3, hs3⟩ := hat3 n hlo
                obtain ⟨g1, g2⟩ := HG.out n hlt
                obtain ⟨s, hs⟩ : ∃ s, (P1 ++ P2).getD n [] = s := ⟨_, rfl⟩
                rw [hs] at hc3 hs3 g1
                have hwi : IntKind.i64.wrap (i + (n : Int)) = i + (n : Int) := wrap_ok (by have := HI0.out.1; omega) (by have := HI0.out.1; have := HI0.out.2; have := HLN.out; omega)
                have HAT := Lib.hid ((L6.out.below HB.out).at (by decide) (i + (n : Int)))
                rw [g1, g2] at HAT
                have HI3 := Lib.hid (show ((0 : Int) ≤ (n : Nat)) ∧ ((n : Nat) : Int) < (N3 : Nat) from ⟨by omega, by omega⟩)
                have HLTN := Lib.hid hlt
                by_cases hh : n < N1
                · obtain ⟨b1, o1, ha1, -, -, -, hb1, hat1⟩ := A1.out.opn (by rw [HN3.out.1]; omega)
                  subst ha1
                  obtain ⟨ra, rc, hc1, hs1⟩ := hat1 n (by rw [HN3.out.1]; exact hh)
                  rw [← getD_app_left (Q := P2) (by rw [HN3.out.1]; exact hh), hs] at hc1 hs1
                  have d1 : decide (((n : Nat) : Int) < ((N1 : Nat) : Int)) = true := decide_eq_true (by omega)
                  have d2 : decide (n < N1) = true := decide_eq_true hh
                  have hsb : IntKind.i64.wrap ((n : Int) - (N1 : Int)) = (n : Int) - (N1 : Int) := wrap_ok (by have := HLE.out; have := H3E.out; omega) (by have := HLE.out; have := H3E.out; omega)
                  have HI1 := Lib.hid (show ((0 : Int) ≤ (n : Nat)) ∧ ((n : Nat) : Int) < (N1 : Nat) from ⟨by omega, by omega⟩)
                  have HCC := Lib.hid (And.intro hb3 (And.intro hc3 (And.intro hb1 hc1)))
                  have HSS := Lib.hid (And.intro hs3 hs1)
                  clear hc3 hs3 hat3 g1 g2 hc1 hs1 hat1 hs hb3 hb1 hlo hh
                  go_upto_region 29 with (go_at_call 9; (with_reducible refine HAT.out.mono ?_); rintro e W9 ⟨ua, uc, rfl, q, bb⟩; have HU := Lib.hid q; have HB9 := Lib.hid (below_add HB.out bb HB.out.size); clear q bb HAT)
                  have HC3 := Lib.hid (show b3 < W9.heap.size ∧ W9.cell? ⟨b3, o3 + n, none⟩ = some (.slice sa s.length sc) from ⟨Nat.lt_of_lt_of_le HCC.out.1 HB9.out.size, (HB9.out.cell HCC.out.1).trans HCC.out.2.1⟩)
                  have HC1 := Lib.hid (show b1 < W9.heap.size ∧ W9.cell? ⟨b1, o1 + n, none⟩ = some (.slice ra s.length rc) from ⟨Nat.lt_of_lt_of_le HCC.out.2.2.1 HB9.out.size, (HB9.out.cell HCC.out.2.2.1).trans HCC.out.2.2.2⟩)
                  have HS3 := Lib.hid (HSS.out.1.below HB9.out (Nat.le_refl _))
                  have HS1 := Lib.hid (HSS.out.2.below HB9.out (Nat.le_refl _))
                  clear d1 d2 hsb hwi
                  refine h_start (S := fun W => Below W9.heap.size W9 W) (by kernel_rfl) ?_
                  have K := Lib.hid (show Below W9.heap.size W9 W9.drew from (Below.refl _ _).drew)
                  refine h_val (i := 0) (v := .int .i64 0) rfl (by kernel_rfl) (by kernel_rfl) (by kernel_rfl) (fun _ _ _ h => h) (by rfl) (fun wz hS => ?_) K.out ?_
                  · go_simp
                  go_frame
                  refine h_val (i := 1) (v := .bool false) rfl (by kernel_rfl) (by kernel_rfl) (by kernel_rfl) (fun _ _ _ h => h) (by rfl) (fun wz hS => ?_) K.out ?_
                  · go_simp
                  go_frame
                  refine h_val (i := 2) (v := .bool false) rfl (by kernel_rfl) (by kernel_rfl) (by kernel_rfl) (fun _ _ _ h => h) (by rfl) (fun wz hS => ?_) K.out ?_
                  · go_simp
                  go_frame
                  refine h_val (i := 3) (v := .slice ua s.length uc) rfl (by kernel_rfl) (by kernel_rfl) (by kernel_rfl) (fun _ _ _ h => h) (by rfl) (fun wz hS => ?_) K.out ?_
                  · go_simp
                  go_frame
                  refine h_val (i := 4) (v := .slice (some ⟨b3, o3, none⟩) N3 c3) rfl (by kernel_rfl) (by kernel_rfl) (by kernel_rfl) (fun _ _ _ h => h) (by rfl) (fun wz hS => ?_) K.out ?_
                  · go_simp
                  go_frame
                  refine h_val (i := 5) (v := .int .i64 (n : Nat)) rfl (by kernel_rfl) (by kernel_rfl) (by kernel_rfl) (fun _ _ _ h => h) (by rfl) (fun wz hS => ?_) K.out ?_
                  · go_simp
                  go_frame
                  refine h_val (i := 6) (v := .pointer (some ⟨b3, o3 + n, none⟩)) rfl (by kernel_rfl) (by kernel_rfl) (by kernel_rfl) (fun _ _ _ h => h) (by rfl) (fun wz hS => ?_) K.out ?_
                  · have i1 := HI3.out.1
                    have i2 := HI3.out.2
                    go_simp
                  go_frame
                  refine h_val (i := 7) (v := .slice sa s.length sc) rfl (by kernel_rfl) (by kernel_rfl) (by kernel_rfl) (fun _ _ _ h => h) (by rfl) (fun wz hS => ?_) K.out ?_
                  · have q : wz.cell? ⟨b3, o3 + n, none⟩ = some (.slice sa s.length sc) := (hS.cell HC3.out.1).trans HC3.out.2
                    go_simp
                  go_frame
                  refine h_call (i := 8) (f := 18) (args := #[.slice ua s.length uc, .slice sa s.length sc]) rfl (by kernel_rfl) (by rfl) (by go_simp) ?_
                  refine (law_same _ _ s s _ (HU.out.below K.out (Nat.le_refl _)) (HS3.out.below K.out (Nat.le_refl _))).mono ?_
                  rintro e wa ⟨rfl, bb⟩
                  have K := Lib.hid (below_add K.out bb K.out.size)
                  rw [decide_eq_true rfl]
                  refine ⟨_, rfl, K.out, ?_⟩
                  clear bb
                  go_frame
                  refine h_val (i := 9) (v := .bool false) rfl (by kernel_rfl) (by kernel_rfl) (by kernel_rfl) (fun _ _ _ h => h) (by rfl) (fun wz hS => ?_) K.out ?_
                  · go_simp
                  go_frame
                  refine h_val (i := 10) (v := .bool false) rfl (by kernel_rfl) (by kernel_rfl) (by kernel_rfl) (fun _ _ _ h => h) (by rfl) (fun wz hS => ?_) K.out ?_
                  · go_simp
                  go_frame
                  refine h_val (i := 11) (v := .bool false) rfl (by kernel_rfl) (by kernel_rfl) (by kernel_rfl) (fun _ _ _ h => h) (by rfl) (fun wz hS => ?_) K.out ?_
                  · go_simp
                  go_frame
                  refine h_val (i := 12) (v := .slice (some ⟨b1, o1, none⟩) N1 c1) rfl (by kernel_rfl) (by kernel_rfl) (by kernel_rfl) (fun _ _ _ h => h) (by rfl) (fun wz hS => ?_) K.out ?_
                  · go_simp
                  go_frame
                  refine h_val (i := 13) (v := .int .i64 (n : Nat)) rfl (by kernel_rfl) (by kernel_rfl) (by kernel_rfl) (fun _ _ _ h => h) (by rfl) (fun wz hS => ?_) K.out ?_
                  · go_simp
                  go_frame
                  refine h_val (i := 14) (v := .pointer (some ⟨b1, o1 + n, none⟩)) rfl (by kernel_rfl) (by kernel_rfl) (by kernel_rfl) (fun _ _ _ h => h) (by rfl) (fun wz hS => ?_) K.out ?_
                  · have i1 := HI1.out.1
                    have i2 := HI1.out.2
                    go_simp
                  go_frame
                  refine h_val (i := 15) (v := .slice ra s.length rc) rfl (by kernel_rfl) (by kernel_rfl) (by kernel_rfl) (fun _ _ _ h => h) (by rfl) (fun wz hS => ?_) K.out ?_
                  · have q : wz.cell? ⟨b1, o1 + n, none⟩ = some (.slice ra s.length rc) := (hS.cell HC1.out.1).trans HC1.out.2
                    go_simp
                  go_frame
                  refine h_val (i := 16) (v := .slice (some ⟨b3, o3, none⟩) N3 c3) rfl (by kernel_rfl) (by kernel_rfl) (by kernel_rfl) (fun _ _ _ h => h) (by rfl) (fun wz hS => ?_) K.out ?_
                  · go_simp
                  go_frame
                  refine h_val (i := 17) (v := .int .i64 (n : Nat)) rfl (by kernel_rfl) (by kernel_rfl) (by kernel_rfl) (fun _ _ _ h => h) (by rfl) (fun wz hS => ?_) K.out ?_
                  · go_simp
                  go_frame
                  refine h_val (i := 18) (v := .pointer (some ⟨b3, o3 + n, none⟩)) rfl (by kernel_rfl) (by kernel_rfl) (by kernel_rfl) (fun _ _ _ h => h) (by rfl) (fun wz hS => ?_) K.out ?_
                  · have i1 := HI3.out.1
                    have i2 := HI3.out.2
                    go_simp
                  go_frame
                  refine h_val (i := 19) (v := .slice sa s.length sc) rfl (by kernel_rfl) (by kernel_rfl) (by kernel_rfl) (fun _ _ _ h => h) (by rfl) (fun wz hS => ?_) K.out ?_
                  · have q : wz.cell? ⟨b3, o3 + n, none⟩ = some (.slice sa s.length sc) := (hS.cell HC3.out.1).trans HC3.out.2
                    go_simp
                  go_frame
                  refine h_call (i := 20) (f := 18) (args := #[.slice ra s.length rc, .slice sa s.length sc]) rfl (by kernel_rfl) (by rfl) (by go_simp) ?_
                  refine (law_same _ _ s s _ (HS1.out.below K.out (Nat.le_refl _)) (HS3.out.below K.out (Nat.le_refl _))).mono ?_
                  rintro e wb ⟨rfl, bb⟩
                  have K := Lib.hid (below_add K.out bb K.out.size)
                  rw [decide_eq_true rfl]
                  refine ⟨_, rfl, K.out, ?_⟩
                  clear bb
                  go_frame
                  refine h_val (i := 21) (v := .bool false) rfl (by kernel_rfl) (by kernel_rfl) (by kernel_rfl) (fun _ _ _ h => h) (by rfl) (fun wz hS => ?_) K.out ?_
                  · go_simp
                  go_frame
                  refine h_val (i := 22) (v := .bool false) rfl (by kernel_rfl) (by kernel_rfl) (by kernel_rfl) (fun _ _ _ h => h) (by rfl) (fun wz hS => ?_) K.out ?_
                  · go_simp
                  go_frame
                  refine h_done (by kernel_rfl) ?_
                  have hle := HLE.out
                  go_wp2
                  go_roundw
                  case rel => exact ⟨n + 1, hlt, by go_num, Lib.hid (below_add HB9.out K.out HB9.out.size)⟩
                  case measure => simp only [intOf]; omega
                · obtain ⟨m, hm⟩ : ∃ m : Nat, n = N1 + m := ⟨n - N1, by omega⟩
                  have hmN : m < P2.length := by rw [HN3.out.2.1]; have := H3E.out; omega
                  obtain ⟨b1, o1, ha1, -, -, -, hb1, hat1⟩ := A2.out.opn (by omega)
                  subst ha1
                  obtain ⟨ra, rc, hc1, hs1⟩ := hat1 m hmN
                  have hs0 : P2.getD m [] = s := by rw [← hs, hm, ← HN3.out.1, getD_app_right]
                  rw [hs0] at hc1 hs1
                  have d1 : decide (((n : Nat) : Int) < ((N1 : Nat) : Int)) = false := decide_eq_false (by omega)
                  have d2 : decide (n < N1) = false := decide_eq_false hh
                  have hsb : IntKind.i64.wrap ((n : Int) - (N1 : Int)) = (m : Int) := by rw [wrap_ok (by omega) (by have := HLE.out; omega)]; omega
                  have HI1 := Lib.hid (show ((0 : Int) ≤ (m : Nat)) ∧ ((m : Nat) : Int) < (N2 : Nat) from ⟨by omega, by have := HN3.out.2.1; omega⟩)
                  have HCC := Lib.hid (And.intro hb3 (And.intro hc3 (And.intro hb1 hc1)))
                  have HSS := Lib.hid (And.intro hs3 hs1)
                  clear hc3 hs3 hat3 g1 g2 hc1 hs1 hat1 hs hs0 hb3 hb1 hlo hh hm hmN
                  go_upto_region 29 with (go_at_call 9; (with_reducible refine HAT.out.mono ?_); rintro e W9 ⟨ua, uc, rfl, q, bb⟩; have HU := Lib.hid q; have HB9 := Lib.hid (below_add HB.out bb HB.out.size); clear q bb HAT)
                  have HC3 := Lib.hid (show b3 < W9.heap.size ∧ W9.cell? ⟨b3, o3 + n, none⟩ = some (.slice sa s.length sc) from ⟨Nat.lt_of_lt_of_le HCC.out.1 HB9.out.size, (HB9.out.cell HCC.out.1).trans HCC.out.2.1⟩)
                  have HC1 := Lib.hid (show b1 < W9.heap.size ∧ W9.cell? ⟨b1, o1 + m, none⟩ = some (.slice ra s.length rc) from ⟨Nat.lt_of_lt_of_le HCC.out.2.2.1 HB9.out.size, (HB9.out.cell HCC.out.2.2.1).trans HCC.out.2.2.2⟩)
                  have HS3 := Lib.hid (HSS.out.1.below HB9.out (Nat.le_refl _))
                  have HS1 := Lib.hid (HSS.out.2.below HB9.out (Nat.le_refl _))
                  clear d1 d2 hsb hwi
                  refine h_start (S := fun W => Below W9.heap.size W9 W) (by kernel_rfl) ?_
                  have K := Lib.hid (show Below W9.heap.size W9 W9.drew from (Below.refl _ _).drew)
                  refine h_val (i := 0) (v := .int .i64 0) rfl (by kernel_rfl) (by kernel_rfl) (by kernel_rfl) (fun _ _ _ h => h) (by rfl) (fun wz hS => ?_) K.out ?_
                  · go_simp
                  go_frame
                  refine h_val (i := 1) (v := .bool false) rfl (by kernel_rfl) (by kernel_rfl) (by kernel_rfl) (fun _ _ _ h => h) (by rfl) (fun wz hS => ?_) K.out ?_
                  · go_simp
                  go_frame
                  refine h_val (i := 2) (v := .bool false) rfl (by kernel_rfl) (by kernel_rfl) (by kernel_rfl) (fun _ _ _ h => h) (by rfl) (fun wz hS => ?_) K.out ?_
                  · go_simp
                  go_frame
                  refine h_val (i := 3) (v := .slice ua s.length uc) rfl (by kernel_rfl) (by kernel_rfl) (by kernel_rfl) (fun _ _ _ h => h) (by rfl) (fun wz hS => ?_) K.out ?_
                  · go_simp
                  go_frame
                  refine h_val (i := 4) (v := .slice (some ⟨b3, o3, none⟩) N3 c3) rfl (by kernel_rfl) (by kernel_rfl) (by kernel_rfl) (fun _ _ _ h => h) (by rfl) (fun wz hS => ?_) K.out ?_
                  · go_simp
                  go_frame
                  refine h_val (i := 5) (v := .int .i64 (n : Nat)) rfl (by kernel_rfl) (by kernel_rfl) (by kernel_rfl) (fun _ _ _ h => h) (by rfl) (fun wz hS => ?_) K.out ?_
                  · go_simp
                  go_frame
                  refine h_val (i := 6) (v := .pointer (some ⟨b3, o3 + n, none⟩)) rfl (by kernel_rfl) (by kernel_rfl) (by kernel_rfl) (fun _ _ _ h => h) (by rfl) (fun wz hS => ?_) K.out ?_
                  · have i1 := HI3.out.1
                    have i2 := HI3.out.2
                    go_simp
                  go_frame
                  refine h_val (i := 7) (v := .slice sa s.length sc) rfl (by kernel_rfl) (by kernel_rfl) (by kernel_rfl) (fun _ _ _ h => h) (by rfl) (fun wz hS => ?_) K.out ?_
                  · have q : wz.cell? ⟨b3, o3 + n, none⟩ = some (.slice sa s.length sc) := (hS.cell HC3.out.1).trans HC3.out.2
                    go_simp
                  go_frame
                  refine h_call (i := 8) (f := 18) (args := #[.slice ua s.length uc, .slice sa s.length sc]) rfl (by kernel_rfl) (by rfl) (by go_simp) ?_
                  refine (law_same _ _ s s _ (HU.out.below K.out (Nat.le_refl _)) (HS3.out.below K.out (Nat.le_refl _))).mono ?_
                  rintro e wa ⟨rfl, bb⟩
                  have K := Lib.hid (below_add K.out bb K.out.size)
                  rw [decide_eq_true rfl]
                  refine ⟨_, rfl, K.out, ?_⟩
                  clear bb
                  go_frame
                  refine h_val (i := 9) (v := .bool false) rfl (by kernel_rfl) (by kernel_rfl) (by kernel_rfl) (fun _ _ _ h => h) (by rfl) (fun wz hS => ?_) K.out ?_
                  · go_simp
                  go_frame
                  refine h_val (i := 10) (v := .bool false) rfl (by kernel_rfl) (by kernel_rfl) (by kernel_rfl) (fun _ _ _ h => h) (by rfl) (fun wz hS => ?_) K.out ?_
                  · go_simp
                  go_frame
                  refine h_val (i := 11) (v := .bool false) rfl (by kernel_rfl) (by kernel_rfl) (by kernel_rfl) (fun _ _ _ h => h) (by rfl) (fun wz hS => ?_) K.out ?_
                  · go_simp
                  go_frame
                  refine h_val (i := 12) (v := .slice (some ⟨b1, o1, none⟩) N2 c2) rfl (by kernel_rfl) (by kernel_rfl) (by kernel_rfl) (fun _ _ _ h => h) (by rfl) (fun wz hS => ?_) K.out ?_
                  · go_simp
                  go_frame
                  refine h_val (i := 13) (v := .int .i64 (m : Nat)) rfl (by kernel_rfl) (by kernel_rfl) (by kernel_rfl) (fun _ _ _ h => h) (by rfl) (fun wz hS => ?_) K.out ?_
                  · go_simp
                  go_frame
                  refine h_val (i := 14) (v := .pointer (some ⟨b1, o1 + m, none⟩)) rfl (by kernel_rfl) (by kernel_rfl) (by kernel_rfl) (fun _ _ _ h => h) (by rfl) (fun wz hS => ?_) K.out ?_
                  · have i1 := HI1.out.1
                    have i2 := HI1.out.2
                    go_simp
                  go_frame
                  refine h_val (i := 15) (v := .slice ra s.length rc) rfl (by kernel_rfl) (by kernel_rfl) (by kernel_rfl) (fun _ _ _ h => h) (by rfl) (fun wz hS => ?_) K.out ?_
                  · have q : wz.cell? ⟨b1, o1 + m, none⟩ = some (.slice ra s.length rc) := (hS.cell HC1.out.1).trans HC1.out.2
                    go_simp
                  go_frame
                  refine h_val (i := 16) (v := .slice (some ⟨b3, o3, none⟩) N3 c3) rfl (by kernel_rfl) (by kernel_rfl) (by kernel_rfl) (fun _ _ _ h => h) (by rfl) (fun wz hS => ?_) K.out ?_
                  · go_simp
                  go_frame
                  refine h_val (i := 17) (v := .int .i64 (n : Nat)) rfl (by kernel_rfl) (by kernel_rfl) (by kernel_rfl) (fun _ _ _ h => h) (by rfl) (fun wz hS => ?_) K.out ?_
                  · go_simp
                  go_frame
                  refine h_val (i := 18) (v := .pointer (some ⟨b3, o3 + n, none⟩)) rfl (by kernel_rfl) (by kernel_rfl) (by kernel_rfl) (fun _ _ _ h => h) (by rfl) (fun wz hS => ?_) K.out ?_
                  · have i1 := HI3.out.1
                    have i2 := HI3.out.2
                    go_simp
                  go_frame
                  refine h_val (i := 19) (v := .slice sa s.length sc) rfl (by kernel_rfl) (by kernel_rfl) (by kernel_rfl) (fun _ _ _ h => h) (by rfl) (fun wz hS => ?_) K.out ?_
                  · have q : wz.cell? ⟨b3, o3 + n, none⟩ = some (.slice sa s.length sc) := (hS.cell HC3.out.1).trans HC3.out.2
                    go_simp
                  go_frame
                  refine h_call (i := 20) (f := 18) (args := #[.slice ra s.length rc, .slice sa s.length sc]) rfl (by kernel_rfl) (by rfl) (by go_simp) ?_
                  refine (law_same _ _ s s _ (HS1.out.below K.out (Nat.le_refl _)) (HS3.out.below K.out (Nat.le_refl _))).mono ?_
                  rintro e wb ⟨rfl, bb⟩
                  have K := Lib.hid (below_add K.out bb K.out.size)
                  rw [decide_eq_true rfl]
                  refine ⟨_, rfl, K.out, ?_⟩
                  clear bb
                  go_frame
                  refine h_val (i := 21) (v := .bool false) rfl (by kernel_rfl) (by kernel_rfl) (by kernel_rfl) (fun _ _ _ h => h) (by rfl) (fun wz hS => ?_) K.out ?_
                  · go_simp
                  go_frame
                  refine h_val (i := 22) (v := .bool false) rfl (by kernel_rfl) (by kernel_rfl) (by kernel_rfl) (fun _ _ _ h => h) (by rfl) (fun wz hS => ?_) K.out ?_
                  · go_simp
                  go_frame
                  refine h_done (by kernel_rfl) ?_
                  have hle := HLE.out
                  go_wp2
                  go_roundw
                  case rel => exact ⟨n + 1, hlt, by go_num, Lib.hid (below_add HB9.out K.out HB9.out.size)⟩
                  case measure => simp only [intOf]; omega
              · obtain rfl : n = N3 := by omega
                have ZL := Lib.hid (L6.out.below HB.out)
                go_wp2_with (go_at_call 8; refine (known13_any _).mono ?_; rintro e wk ⟨rfl, bb⟩; have ZK := Lib.hid (ZL.out.below bb); clear bb)
                go_ret
                exact ⟨rfl, ZK.out.b⟩
          · go_wp2_with (first
              | (go_at_call 10; (with_reducible refine (H1.out _ L3.out).mono ?_); rintro e w3 ⟨a1, c1, rfl, q, bb⟩; have L4 := Lib.hid (L3.out.below bb); clear q bb L3 H1)
              | (go_at_call 10; (with_reducible refine (H2.out _ L4.out).mono ?_); rintro e w4 ⟨a2, c2, rfl, q, bb⟩; have L5 := Lib.hid (L4.out.below bb); clear q bb L4 H2)
              | (go_at_call 10; (with_reducible refine (H3.out _ L5.out).mono ?_); rintro e w5 ⟨a3, c3, rfl, q, bb⟩; have L6 := Lib.hid (L5.out.below bb); clear q bb L5 H3)
              | (go_at_call 8; refine (known13_any _).mono ?_; rintro e wk ⟨rfl, bb⟩; have L7 := Lib.hid (L6.out.below bb); clear bb))
            go_ret
            exact ⟨rfl, L7.out.b⟩
        · go_wp2_with (first
              | (go_at_call 10; (with_reducible refine (H1.out _ L3.out).mono ?_); rintro e w3 ⟨a1, c1, rfl, q, bb⟩; have L4 := Lib.hid (L3.out.below bb); clear q bb L3 H1)
              | (go_at_call 10; (with_reducible refine (H2.out _ L4.out).mono ?_); rintro e w4 ⟨a2, c2, rfl, q, bb⟩; have L5 := Lib.hid (L4.out.below bb); clear q bb L4 H2)
              | (go_at_call 10; (with_reducible refine (H3.out _ L5.out).mono ?_); rintro e w5 ⟨a3, c3, rfl, q, bb⟩; have L6 := Lib.hid (L5.out.below bb); clear q bb L5 H3)
              | (go_at_call 8; refine (known13_any _).mono ?_; rintro e wk ⟨rfl, bb⟩; have L7 := Lib.hid (L6.out.below bb); clear bb))
          go_ret
          exact ⟨rfl, L7.out.b⟩
  · have HSM := Lib.hid (fun W hb => small_any _ xs W (HV.out.below (w' := W) hb))
    rw [decide_eq_false hs] at HSM
    clear hs
    go_enter Try.func6, Try.ntmps6
    go_wp2_with (first
      | (go_at_call 17; refine HN.out.mono ?_; clear HN; rintro e w1 ⟨rb, rfl, q1, bb⟩; have L1 := Lib.hid (LI.mk q1 bb PB.nil); clear q1 bb)
      | (go_at_call 7; refine (HSM.out _ L1.out.b).mono ?_; rintro e w2 ⟨rfl, bb⟩; have L2 := Lib.hid (L1.out.below bb); clear bb L1 HSM)
      | (go_at_call 8; refine (known13_any _).mono ?_; rintro e w3 ⟨rfl, bb⟩; have L3 := Lib.hid (L2.out.below bb); clear bb))
    go_ret
    exact ⟨rfl, L3.out.b⟩
end Go.Proofs.Yteodfbkfpboehaa
