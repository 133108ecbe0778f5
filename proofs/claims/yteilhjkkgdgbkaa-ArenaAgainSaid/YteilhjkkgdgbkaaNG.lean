
import Derived.Test.YteilhjkkgdgbkaaNF
import Derived.Deep.CutRange
import Derived.Deep.DeepCutAuto
/- NG: ArenaAgain's walk -/
namespace Go.Proofs.Yteilhjkkgdgbkaa
open Go.RowKit
set_option linter.unusedVariables false

theorem rem_nat (x : Int) {l : Nat} (h0 : 0 < l) (h1 : l ≤ 1000000) : ∃ q : Nat, wrap64 ((IntKind.u64.wrap x).tmod (l : Int)) = (q : Int) ∧ q < l := by
  have h2 : 0 ≤ IntKind.u64.wrap x := by rw [IntKind.wrap_u64]; omega
  have h3 := Int.tmod_nonneg (l : Int) h2
  have h4 := Int.tmod_lt_of_pos (IntKind.u64.wrap x) (show (0 : Int) < (l : Int) by omega)
  refine ⟨((IntKind.u64.wrap x).tmod (l : Int)).toNat, ?_, by omega⟩
  generalize (IntKind.u64.wrap x).tmod (l : Int) = y at *
  unfold wrap64
  omega
theorem again_bad (n : Int) (ov : Value) (xs : List Int) (w : World) (h : Ints .i64 w ov xs) (hn : n < 0 ∨ 60 < n) :
    Calls Try.prog 6 #[.int .i64 n, ov] w fun e w' => e = .returned (.bool true) ∧ Below w.heap.size w w' := by
  have HK := Lib.hid (known8_any w)
  obtain ⟨oa, oc, rfl⟩ := h.shape
  clear h
  by_cases h0 : n < 0
  · have g0 : decide (n < 0) = true := by rw [decide_eq_true_iff]; exact h0
    go_enter Try.func6, Try.ntmps6
    go_wp2_with (go_at_call 8; refine HK.out.mono ?_; rintro e w1 ⟨rfl, hb⟩)
    go_ret
    exact ⟨rfl, hb⟩
  · have g0 : decide (n < 0) = false := by rw [decide_eq_false_iff_not]; exact h0
    have g1 : decide (60 < n) = true := by rw [decide_eq_true_iff]; omega
    go_enter Try.func6, Try.ntmps6
    go_wp2_with (go_at_call 8; refine HK.out.mono ?_; rintro e w1 ⟨rfl, hb⟩)
    go_ret
    exact ⟨rfl, hb⟩

set_option maxRecDepth 100000 in
set_option maxHeartbeats 4000000 in
theorem again_walk (n : Int) (ov : Value) (xs : List Int) (w : World) (h : Ints .i64 w ov xs) :
    Calls Try.prog 6 #[.int .i64 n, ov] w fun e w' => e = .returned (.bool true) ∧ Below w.heap.size w w' := by
  by_cases hn : n < 0 ∨ 60 < n
  · exact again_bad n ov xs w h hn
  obtain ⟨m, rfl⟩ : ∃ m : Nat, n = m := ⟨n.toNat, by omega⟩
  have hm : m ≤ 60 := by omega
  have g0 : decide ((m : Int) < 0) = false := by rw [decide_eq_false_iff_not]; omega
  have g1 : decide (60 < (m : Int)) = false := by rw [decide_eq_false_iff_not]; omega
  have hxl := h.len
  obtain ⟨oa, oc, rfl⟩ := h.shape
  obtain ⟨i0, ki, kz0, kz1, kz2⟩ := info_in_6
  have HX := Lib.hid h
  have HN := Lib.hid (new_6 w)
  clear h hn
  go_enter Try.func6, Try.ntmps6
  go_wp2_with (go_at_call 7; refine HN.out.mono ?_; rintro e w1 ⟨ab, rfl, hT, hb, -⟩; refine Hid.out ?_)
  have R0 := Lib.hid (AgR.first hT hb)
  clear hT hb HN
  refine Lib.hid ?_
  go_wp2
  go_loopw [6, 23] (fun s6 s23 wr => ∃ (k : Nat) (S : Nat → Prop), k ≤ m ∧ s23 = .int .i64 k ∧ AgR w w.heap.size ab s6 (.slice none 0 0) (List.range k) [] S (upA k) k wr) (fun _ s23 _ => m - (intOf s23).toNat)
  case atStart => exact ⟨0, _, Nat.zero_le _, rfl, R0.out⟩
  case round =>
    obtain ⟨k, S, hk, rfl, hR⟩ := hrel
    obtain ⟨la, lc, rfl, -, -⟩ := own_shape hR.hl
    rw [List.length_range] at hR
    by_cases hlt : k < m
    · have g2 : decide ((k : Int) < (m : Int)) = true := by rw [decide_eq_true_iff]; omega
      have HT := Lib.hid (hR.take (by omega) (k : Nat) (upA_fresh k))
      clear hR
      go_wp2_with (go_at_call 10; refine HT.out.mono ?_; rintro e w2 ⟨rfl, ⟨S2, hR2⟩, -⟩; refine Hid.out ?_)
      rw [upA_take] at hR2
      have hbA := (Below.refl w2.heap.size w2).alloc (Nat.le_refl _) (.cells #[.int .i64 (k : Nat)] 3)
      have HL := Lib.hid (hR2.below hbA)
      have HR2 := Lib.hid hR2
      have HNW := Lib.hid (heap_alloc_new w2 (.cells #[.int .i64 (k : Nat)] 3))
      have hl2 : k = (List.range k).length := by simp
      have hol := (hR2.below hbA).hl
      rw [← hl2] at hol
      have HO := Lib.hid hol
      have HL2 := Lib.hid hl2
      clear hR2 hbA HT hol hl2
      refine Lib.hid ?_
      go_wp2_with (at_builtin; refine wpList_append_lies _ rfl (.tmp 31) (.tmp 33) 28 rfl 0 3 i0 (.int .i64 0) 1 8 Try.underlying28 ki kz0 kz1 kz2 rfl (by decide) (.slice la k lc) k (fl natC (List.range k)) rfl HO.out ⟨w2.heap.size, 0, none⟩ 1 1 [.int .i64 (k : Nat)] rfl rfl (World.news_of_block HNW.out) (by simp [Value.oneCell']) (by decide) (by unfold maxLen; omega) (by omega) (Nat.zero_le _) _ rfl ?_; intro g4 cap4 w4 ho4 hg4 ha4 hl4; refine Hid.out ?_)
      have R4 := Lib.hid (HR2.out.pushL HL2.out ho4 hg4 (by simpa using ha4))
      clear hg4 ha4 ho4 hl4 HL2 HL HR2 HNW HO
      refine Lib.hid ?_
      go_wp2
      go_roundw
      case rel => exact ⟨k + 1, _, by omega, by go_num, by rw [List.range_succ]; exact R4.out⟩
      case measure => simp [intOf]; omega
    · obtain rfl : k = m := by omega
      have g2 : decide ((k : Int) < (k : Int)) = false := by rw [decide_eq_false_iff_not]; omega
      have R1 := Lib.hid (show ∃ lv L F A, lv = Value.slice la k lc ∧ L = List.range k ∧ F = [] ∧ A = upA k ∧ AgR w w.heap.size ab lv (.slice none 0 0) L F S A k wr ∧ AgP k A L F from ⟨_, _, _, _, rfl, rfl, rfl, rfl, hR, agp_first k⟩)
      clear hR
      rw [List.length_range]
      go_wp2
      go_loopw [6, 7, 9] (fun s6 s7 s9 wr => ∃ (L F : List Nat) (S : Nat → Prop) (A : ArS Int), s9 = .int .i64 (F.length : Nat) ∧ AgR w w.heap.size ab s6 s7 L F S A (k + F.length) wr ∧ AgP k A L F) (fun _ _ s9 _ => k - (intOf s9).toNat)
      case atStart =>
        obtain ⟨lv, L, F, A, rfl, rfl, rfl, rfl, q1, q2⟩ := R1.out
        exact ⟨_, _, _, _, rfl, q1, q2⟩
      case round =>
        obtain ⟨L, F, S2, A, rfl, hR, hP⟩ := hrel
        have hlen := hP.len
        obtain ⟨la2, lc2, rfl, -, -⟩ := own_shape hR.hl
        obtain ⟨fa2, fc2, rfl, -, -⟩ := own_shape hR.hf
        by_cases hL : 0 < L.length
        · have g3 : decide ((0 : Int) < (L.length : Int)) = true := by rw [decide_eq_true_iff]; omega
          obtain ⟨lg, lcap, e, hc1, hc2, hlg, hat⟩ := own_nat hR.hl hL
          injection e with e1 _ e2
          subst e1 e2
          have HR := Lib.hid hR
          have HP := Lib.hid hP
          have HAT := Lib.hid hat
          have HXW := Lib.hid (fun j (hj : j < xs.length) => show ∃ b off, oa = some ⟨b, off, none⟩ ∧ xs.length ≤ oc ∧ wr.cell? ⟨b, off + j, none⟩ = some (.int .i64 (xs.getD j 0)) from by
            obtain ⟨b, off, q1, -, q3, -, q5⟩ := HX.out.opened (by omega)
            exact ⟨b, off, q1, q3, (hR.bel.cell (p := ⟨b, off + j, none⟩) (World.block_lt_of_cell? w _ (q5 j hj))).trans (q5 j hj)⟩)
          obtain ⟨d, hd⟩ : ∃ d, decide (F.length < xs.length) = d := ⟨_, rfl⟩
          clear hR hP hat
          go_upto_if 44 with (fail)
          go_cut [10] from 45 to 54 (fun s10 wx => ∃ q : Nat, s10 = .int .i64 q ∧ q < L.length ∧ wx = wr)
          case first =>
            cases d with
            | true =>
              have hlt : F.length < xs.length := by rw [decide_eq_true_iff] at hd; exact hd
              obtain ⟨b, off, rfl, ho1, ho2⟩ := HXW.out _ hlt
              generalize xs.getD F.length 0 = x at *
              have hi0 : (0 : Int) ≤ (F.length : Int) := by omega
              have hi1 : (F.length : Int) < (xs.length : Int) := by omega
              clear hd
              go_wp2
              go_meet
              obtain ⟨q, hq1, hq2⟩ := rem_nat x hL (by omega)
              exact ⟨q, by rw [hq1], hq2, rfl⟩
            | false =>
              clear hd
              go_wp2
              go_meet
              exact ⟨0, rfl, hL, rfl⟩
          case rest =>
            obtain ⟨q, rfl, hq, rfl⟩ := hcut
            clear hd
            have cq := HAT.out q hq
            obtain ⟨xq, hxq⟩ := HP.out.left L[q] (List.getElem_mem hq)
            have hst := HP.out.step hq
            have hgo := HP.out.gone L[q]
            obtain ⟨y, hy⟩ : ∃ y, L[q] = y := ⟨_, rfl⟩
            rw [hy] at cq hxq hst hgo
            have HS := Lib.hid hst
            have HG := Lib.hid hgo
            have HY := Lib.hid hy
            have HF := Lib.hid (HR.out.free (by omega) hxq)
            have hq0 : (0 : Int) ≤ (q : Int) := by omega
            have hq1 : (q : Int) < (L.length : Int) := by omega
            clear hst hgo hy hxq HAT HXW
            go_wp2_with (go_at_call 12; refine HF.out.mono ?_; rintro e w2 ⟨rfl, ⟨S3, hR2⟩, -⟩; refine Hid.out ?_)
            have HF2 := Lib.hid (free_not_6 hR2.t (by omega) HG.out)
            obtain ⟨lg', lcap', e, -, -, hlg2, hat2⟩ := own_nat hR2.hl hL
            have e1 : lg = lg' := by injection e with e1 _ _; injection e1 with e1; injection e1 with e1
            subst e1
            have cq2 := hat2 q hq
            rw [HY.out] at cq2
            have R2 := Lib.hid hR2
            clear hR2 HF cq hat2 e hlg
            have hbA := (Below.refl w2.heap.size w2).alloc (Nat.le_refl _) (.cells #[.int .i64 (y : Nat)] 3)
            have HO := Lib.hid (R2.out.below hbA).hf
            have HNW := Lib.hid (heap_alloc_new w2 (.cells #[.int .i64 (y : Nat)] 3))
            clear hbA
            refine Lib.hid ?_
            go_wp2_with (first
              | (go_at_call 12; refine HF2.out.mono ?_; rintro e wx ⟨rfl, hw⟩; have hw := hw.symm; subst hw)
              | (at_builtin; refine wpList_append_lies _ rfl (.tmp 71) (.tmp 76) 28 rfl 0 3 i0 (.int .i64 0) 1 8 Try.underlying28 ki kz0 kz1 kz2 rfl (by decide) (.slice fa2 F.length fc2) F.length (fl natC F) rfl HO.out ⟨w2.heap.size, 0, none⟩ 1 1 [.int .i64 (y : Nat)] rfl rfl (World.news_of_block HNW.out) (by simp [Value.oneCell']) (by decide) (by unfold maxLen; omega) (by omega) (Nat.zero_le _) _ rfl ?_; intro g4 cap4 w4 ho4 hg4 ha4 hl4; refine Hid.out ?_))
            have hR4 := R2.out.pushF rfl ho4 hg4 (by simpa using ha4)
            obtain ⟨lg', lcap', e, -, -, hlg4, hat4⟩ := own_nat hR4.hl hL
            have e1 : lg = lg' := by injection e with e1 _ _; injection e1 with e1; injection e1 with e1
            subst e1
            have hrow4 := hR4.hl
            have R4 := Lib.hid hR4
            clear hg4 ha4 ho4 hl4 R2 HNW HO HF2 hlg2 cq2 e hat4 hR4
            have hbd : Below w4.heap.size w4 w4.drew := (Below.refl _ _).drew
            have hbal := hbd.alloc (Nat.le_refl _) (.cells #[] 3)
            have HNEWS := Lib.hid (show ∀ (j : Nat) (u : Value), (fl natC (L.take q))[j]? = some u → (w4.alloc (.cells #[] 3)).drew.cell? ((⟨lg, 0, none⟩ : Addr).add j) = some u from fun j u hu => by
              have hM := (R4.out.below hbal).hl
              refine World.ownsRow.cells hM rfl j u ?_
              rw [show fl natC L = fl natC (L.take q) ++ fl natC (L.drop q) by rw [← fl_app, List.take_append_drop], List.getElem?_append_left (List.getElem?_eq_some_iff.1 hu).1]
              exact hu)
            have HW5 := Lib.hid (fun (w5 : World) (hg : (w4.alloc (.cells #[] 3)).drew.grownBy w5 (Value.slice (some ⟨w4.heap.size, 0, none⟩) 0 0).ownBlock) => (show Below w4.heap.size w4 w5 from below_add hbd (fresh_grown (w := w4.drew) hg) hbd.size))
            have HOF := Lib.hid (show (w4.alloc (.cells #[] 3)).drew.ownsRow w4.heap.size 3 1 (.slice (some ⟨w4.heap.size, 0, none⟩) 0 0) 0 [] from own_fresh7 w4.drew 3 1)
            have HFL := Lib.hid (show (fl natC (L.take q)).length = q * 1 from by rw [fl_len, List.length_take, Nat.min_eq_left (by omega)]; rfl)
            have hq2 : (q : Int) ≤ (lc2 : Int) := by omega
            have hq3 : (q : Int) + 1 ≤ (L.length : Int) := by omega
            have hq4 : (0 : Int) ≤ (q : Int) + 1 := by omega
            have hqw : IntKind.i64.wrap ((q : Int) + 1) = (q : Int) + 1 := by rw [IntKind.wrap_i64]; omega
            have hLb : L.length ≤ 60 := by omega
            have HFL2 := Lib.hid (show (fl natC (L.drop (q + 1))).length = (L.length - (q + 1)) * 1 from by rw [fl_len, List.length_drop]; rfl)
            have HSH := Lib.hid (fun (v5 : Value) (w5 : World) (ho : w5.ownsRow w4.heap.size 3 1 v5 (0 + q) ([] ++ fl natC (L.take q))) => (show ∃ a c, v5 = .slice a q c ∧ w5.ownsRow w4.heap.size 3 1 (.slice a q c) q (fl natC (L.take q)) from by
              rw [Nat.zero_add, List.nil_append] at ho
              obtain ⟨a, c, e, -, -⟩ := own_shape ho
              rw [e] at ho
              exact ⟨a, c, e, ho⟩))
            have FIN := Lib.hid (fun (w5 : World) (hb5 : Below w4.heap.size w4 w5) (v5 : Value) (ho5 : w5.ownsRow w4.heap.size 3 1 v5 q (fl natC (L.take q))) (v6 : Value) (w6 : World) (n6 : Nat) (hn6 : n6 = q + (L.length - (q + 1))) (ho : w6.ownsRow w4.heap.size 3 1 v6 n6 (fl natC (L.take q) ++ fl natC (L.drop (q + 1)))) (hg : w5.grownBy w6 v5.ownBlock) => (show ∃ S', AgR w w.heap.size ab v6 (.slice (some ⟨g4, 0, none⟩) (F.length + 1) cap4) (L.take q ++ L.drop (q + 1)) (F ++ [y]) S' (A.out y) (k + F.length + 1) w6 from by
              subst hn6
              have hb6 : Below w4.heap.size w4 w6 := hb5.trans ((Below.refl w4.heap.size w5).grown hg hb5.size (fun k e => own_base ho5 e))
              have hl : (L.take q ++ L.drop (q + 1)).length = q + (L.length - (q + 1)) := by rw [List.length_append, List.length_take, List.length_drop]; omega
              exact ⟨_, R4.out.growL (Off.of_below hb6) (by rw [hl, fl_app]; exact owns_mono ho (Nat.zero_le _)) (fun g hg => .inr (own_base ho hg))⟩))
            clear hrow4 hbal hbd
            refine Lib.hid ?_
            go_wp2_with fail
            by_cases hcap9 : lc2 = q + 1
            · subst hcap9
              have hq5 : (q : Int) ≤ (q : Int) + 1 := by omega
              have HFLA := Lib.hid (show (fl natC (L.drop (q + 1))).length = 0 * 1 from by rw [fl_len, List.length_drop]; show (L.length - (q + 1)) * 1 = 0 * 1; omega)
              have HN6 := Lib.hid (show q + 0 = q + (L.length - (q + 1)) from by omega)
              have HT2 := Lib.hid (fun (w5 : World) (hb5 : Below w4.heap.size w4 w5) => (show ∀ (j : Nat) (u : Value), (fl natC (L.drop (q + 1)))[j]? = some u → w5.cell? ((⟨lg, 0, none⟩ : Addr).add j) = some u from fun j u hu => by
                exfalso
                have := (List.getElem?_eq_some_iff.1 hu).1
                rw [fl_len, List.length_drop, show natC.m = 1 from rfl] at this
                omega))
              go_region_law
                (first
                  | (refine step_append_at7 (by rfl) (.tmp 78) (.tmp 81) 28 (by rfl) w4.heap.size 3 i0 (.int .i64 0) 1 8 Try.underlying28 ki kz0 kz1 kz2 (by rfl) (by decide) (.slice (some ⟨w4.heap.size, 0, none⟩) 0 0) 0 [] (by rfl) HOF.out ⟨lg, 0, none⟩ q (q + 1) (fl natC (L.take q)) (by rfl) HFL.out HNEWS.out (fl_ones natC _) (by unfold maxLen; omega) (by omega) (by simp) ?_; intro v5 w5 ho5 hg5 ha5; obtain ⟨a5, c5, e5, ho5'⟩ := HSH.out v5 w5 ho5; subst e5; have hb5 := HW5.out w5 hg5)
                  | (refine step_append_at7 (by rfl) (.tmp 82) (.tmp 86) 28 (by rfl) w4.heap.size 3 i0 (.int .i64 0) 1 8 Try.underlying28 ki kz0 kz1 kz2 (by rfl) (by decide) (.slice a5 q c5) q (fl natC (L.take q)) (by rfl) ho5' ⟨lg, 0, none⟩ 0 0 (fl natC (L.drop (q + 1))) (by rfl) HFLA.out (HT2.out w5 hb5) (fl_ones natC _) (by unfold maxLen; omega) (by omega) hb5.size ?_; intro v6 w6 ho6 hg6 ha6))
              all_goals (have R6 := FIN.out w5 hb5 (.slice a5 q c5) ho5' v6 w6 _ HN6.out ho6 hg6; clear ho5 ho5' hg5 ha5 hb5 ho6 hg6 ha6; go_wp2; go_roundw)
              case rel =>
                obtain ⟨S', hA⟩ := R6
                exact ⟨_, F ++ [y], S', A.out y, by simp, by rw [List.length_append]; exact hA, HS.out⟩
              case measure => simp [intOf]; omega
            · have HN6 := Lib.hid (show q + (L.length - (q + 1)) = q + (L.length - (q + 1)) from rfl)
              have HT2 := Lib.hid (fun (w5 : World) (hb5 : Below w4.heap.size w4 w5) => (show ∀ (j : Nat) (u : Value), (fl natC (L.drop (q + 1)))[j]? = some u → w5.cell? ((⟨lg, q + 1, none⟩ : Addr).add j) = some u from fun j u hu => by
                have hM := (R4.out.below hb5).hl
                have e9 : fl natC L = fl natC (L.take (q + 1)) ++ fl natC (L.drop (q + 1)) := by rw [← fl_app, List.take_append_drop]
                rw [Go.WideShapes.add_plain]
                have := World.ownsRow.cells hM rfl (q + 1 + j) u (by
                  rw [e9, List.getElem?_append_right (by rw [fl_len, List.length_take, show natC.m = 1 from rfl]; omega), fl_len, List.length_take, show natC.m = 1 from rfl]
                  rw [show q + 1 + j - min (q + 1) L.length * 1 = j by omega]
                  exact hu)
                rw [Go.WideShapes.add_plain, Nat.zero_add] at this
                exact this))
              go_region_law
                (first
                  | (refine step_append_at7 (by rfl) (.tmp 78) (.tmp 81) 28 (by rfl) w4.heap.size 3 i0 (.int .i64 0) 1 8 Try.underlying28 ki kz0 kz1 kz2 (by rfl) (by decide) (.slice (some ⟨w4.heap.size, 0, none⟩) 0 0) 0 [] (by rfl) HOF.out ⟨lg, 0, none⟩ q lc2 (fl natC (L.take q)) (by rfl) HFL.out HNEWS.out (fl_ones natC _) (by unfold maxLen; omega) (by omega) (by simp) ?_; intro v5 w5 ho5 hg5 ha5; obtain ⟨a5, c5, e5, ho5'⟩ := HSH.out v5 w5 ho5; subst e5; have hb5 := HW5.out w5 hg5)
                  | (refine step_append_at7 (by rfl) (.tmp 82) (.tmp 86) 28 (by rfl) w4.heap.size 3 i0 (.int .i64 0) 1 8 Try.underlying28 ki kz0 kz1 kz2 (by rfl) (by decide) (.slice a5 q c5) q (fl natC (L.take q)) (by rfl) ho5' ⟨lg, q + 1, none⟩ (L.length - (q + 1)) (lc2 - (q + 1)) (fl natC (L.drop (q + 1))) (by rfl) HFL2.out (HT2.out w5 hb5) (fl_ones natC _) (by unfold maxLen; omega) (by omega) hb5.size ?_; intro v6 w6 ho6 hg6 ha6))
              all_goals (have R6 := FIN.out w5 hb5 (.slice a5 q c5) ho5' v6 w6 _ HN6.out ho6 hg6; clear ho5 ho5' hg5 ha5 hb5 ho6 hg6 ha6; go_wp2; go_roundw)
              case rel =>
                obtain ⟨S', hA⟩ := R6
                exact ⟨_, F ++ [y], S', A.out y, by simp, by rw [List.length_append]; exact hA, HS.out⟩
              case measure => simp [intOf]; omega
        · have hL0 : L.length = 0 := by omega
          rw [hL0]
          obtain rfl : L = [] := List.length_eq_zero_iff.1 hL0
          clear hL0
          obtain ⟨hq0, hFk⟩ := hP.again
          have R3 := Lib.hid (show AgR w w.heap.size ab (.slice la2 0 lc2) (.slice fa2 F.length fc2) [] F S2 A (k + k + 0) wr ∧ AgQ k A F 0 from ⟨by rw [← hFk]; rw [← hFk] at hR; exact hR, hq0⟩)
          clear hR hP hL hlen hq0
          have HFK := Lib.hid hFk
          clear hFk
          go_wp2
          go_loopw [89] (fun s89 wr => ∃ (j : Nat) (S : Nat → Prop) (A : ArS Int), j ≤ k ∧ s89 = .int .i64 j ∧ AgR w w.heap.size ab (.slice la2 0 lc2) (.slice fa2 F.length fc2) [] F S A (k + k + j) wr ∧ AgQ k A F j) (fun s89 _ => k - (intOf s89).toNat)
          case atStart => exact ⟨0, _, _, Nat.zero_le _, rfl, R3.out.1, R3.out.2⟩
          case round =>
            obtain ⟨j, S3, A3, hj, rfl, hR, hQ⟩ := hrel
            by_cases hjk : j < k
            · have g4 : decide ((j : Int) < (k : Int)) = true := by rw [decide_eq_true_iff]; omega
              have hF := HFK.out
              obtain ⟨fg, fcap, e, -, -, hfg, hat⟩ := own_nat hR.hf (by omega)
              injection e with e1 _ e2
              subst e1 e2
              obtain ⟨p, hp⟩ : ∃ p, k - 1 - j = p := ⟨_, rfl⟩
              have hpl : p < F.length := by omega
              have hfr := hQ.fresh hjk hF
              have hnx := hQ.step hjk hF 1
              have hat0 := hat p hpl
              obtain ⟨z, hz⟩ : ∃ z, F[p] = z := ⟨_, rfl⟩
              have hfr2 : A3.fresh = z := by rw [hfr, ← hz]; congr 1
              rw [hz] at hat0
              have hbd : Below wr.heap.size wr wr.drew := (Below.refl _ _).drew
              have hS0 : wr.drew.cell? ⟨fg, p, none⟩ = some (.int .i64 (z : Nat)) := (hbd.cell (p := ⟨fg, p, none⟩) hfg).trans hat0
              have HT := Lib.hid ((hR.below hbd).take (by omega) 1 hfr2)
              have HC := Lib.hid (fun (w5 : World) (S5 : Nat → Prop) (h5 : AgR w w.heap.size ab (.slice la2 0 lc2) (.slice (some ⟨fg, 0, none⟩) F.length fc2) [] F S5 (A3.take 1) (k + k + j + 1) w5) => (show w5.cell? ⟨fg, p, none⟩ = some (.int .i64 (z : Nat)) from by
                obtain ⟨fg', fcap', e, -, -, -, hat'⟩ := own_nat h5.hf (by omega)
                have e1 : fg' = fg := by injection e with e1 _ _; injection e1 with e1; injection e1 with e1; exact e1.symm
                subst e1
                rw [hat' p hpl, hz]))
              have HN := Lib.hid hnx
              have hw1 : IntKind.i64.wrap ((k : Int) - 1) = (k : Int) - 1 := by rw [IntKind.wrap_i64]; omega
              have hw2 : IntKind.i64.wrap ((k : Int) - 1 - (j : Int)) = (p : Int) := by rw [IntKind.wrap_i64]; omega
              have hp0 : (0 : Int) ≤ (p : Int) := by omega
              have hp1 : (p : Int) < (F.length : Int) := by omega
              clear hR hQ hat hat0 hfr hfr2 hnx hbd hz hF hp
              go_wp2_with fail
              go_region_held3 (fun w' => w'.cell? ⟨fg, p, none⟩ = some (.int .i64 (z : Nat))) (first | assumption | trivial)
                ((go_at_call 10; refine HT.out.mono ?_; rintro e w5 ⟨rfl, ⟨S5, hR5⟩, -⟩; have hS5 := HC.out w5 S5 hR5))
              have R5 := Lib.hid hR5
              clear hR5 hS0 HT HC hS5
              go_wp2
              go_roundw
              case rel => exact ⟨j + 1, _, _, by omega, by go_num, R5.out, HN.out⟩
              case measure => simp [intOf]; omega
            · obtain rfl : j = k := by omega
              have g4 : decide ((j : Int) < (j : Int)) = false := by rw [decide_eq_false_iff_not]; omega
              have hfe : A3.free = [] := by rw [hQ.free, Nat.sub_self, List.take_zero]
              have hln : A3.len = j := by unfold ArS.len; rw [hfe, hQ.ps]; simp
              have hl := lens_6 hR.t (by omega)
              rw [hln] at hl
              have HL := Lib.hid hl
              have HC := Lib.hid (fun q => (by
                have := caps_6 (hR.t.below (blw_drewN (Below.refl _ wr) q))
                rw [hQ.ps] at this
                exact this : Calls Try.prog 18 #[.pointer (some ⟨ab, 0, none⟩)] (wr.drewN q) fun e w' => e = .returned (.int .i64 (j : Nat)) ∧ w' = wr.drewN q))
              have HK := Lib.hid (fun q => known8_any (wr.drewN q))
              have HB := Lib.hid hR.bel
              clear hR hQ hl hfe hln
              go_wp2_with (first
                | (go_at_call 16; refine HL.out.mono ?_; rintro e wx ⟨rfl, q, rfl⟩)
                | (go_at_call 18; refine (HC.out q).mono ?_; rintro e wx ⟨rfl, hw⟩; have hw := hw.symm; subst hw)
                | (go_at_call 8; refine (HK.out q).mono ?_; rintro e w9 ⟨rfl, hb9⟩))
              go_ret
              exact ⟨rfl, below_add (blw_drewN HB.out q) hb9 (blw_drewN HB.out q).size⟩
end Go.Proofs.Yteilhjkkgdgbkaa
