
import Derived.Test.YtiobcifpebehnaaDoorA15
/- A16: May, and the reference's -/
namespace Go.Proofs.YtiobcifpebehnaaDoor
open Go.RowKit
set_option linter.unusedVariables false

theorem ret_may {a b : Int} (h : a = b) : Ending.returned (.int .i64 a) = .returned (.int .i64 b) := by rw [h]

set_option maxRecDepth 100000 in
set_option maxHeartbeats 1000000 in
theorem may_any5 (p : Value) (ks : List Key) (v : Value) (xs : List Att) (w : World) (hs : Sch w p ks) (hv : Arow w v xs) (hW : ∀ a ∈ xs, AttW a) :
    Calls Tryd.prog 31 #[p, v] w fun e w' => e = .returned (.int .i64 (may5 ks xs)) ∧ Below w.heap.size w w' := by
  have hl := hv.len
  have hwf := wf_any v xs w hv hW
  cases hw5 : wf5 xs
  · rw [hw5] at hwf
    have HWF := Lib.hid hwf
    have HN := Lib.hid (may_3 (ks := ks) hw5)
    clear hv hs hW hwf hw5
    go_enter Tryd.func31, Tryd.ntmps31
    go_wp2_with (go_at_call 44; refine HWF.out.mono ?_; rintro e w1 ⟨rfl, hb1⟩)
    go_ret
    exact ⟨ret_may HN.out.symm, hb1⟩
  rw [hw5] at hwf
  have HWF := Lib.hid hwf
  have H5 := Lib.hid hw5
  clear hwf hw5
  obtain ⟨a1, cap1, rfl⟩ := hv.shape
  by_cases h0 : 0 < xs.length
  · obtain ⟨b1, o1, rfl, -, -, -, hbl, hat⟩ := Arow.opn hv h0
    have HAT := Lib.hid hat
    have HWA := Lib.hid hW
    have HS := Lib.hid hs
    clear hv hat hW hs
    go_enter Tryd.func31, Tryd.ntmps31
    go_wp2_with (go_at_call 44; refine HWF.out.mono ?_; rintro e w1 ⟨rfl, hb1⟩)
    have HB1 := Lib.hid hb1
    clear hb1
    go_loopw [12] (fun s12 wr => ∃ k : Nat, k ≤ xs.length ∧ s12 = .int .i64 k ∧ Hid (okF5 ks (xs.take k) = true) ∧ Below w.heap.size w wr) (fun s12 _ => xs.length - (intOf s12).toNat)
    case atStart => exact ⟨0, Nat.zero_le _, rfl, Lib.hid rfl, HB1.out⟩
    case round =>
      obtain ⟨k, hk, rfl, HP, hb⟩ := hrel
      by_cases hlt : k < xs.length
      · obtain ⟨c0, c1, c2, c3, c4⟩ := (HAT.out k hlt).below hb hbl
        have hw := HWA.out _ (List.getElem_mem hlt)
        have HF := Lib.hid (fun w1 (h1 : Below w.heap.size w w1) => fits_any p ks xs[k].key xs[k].k xs[k].n xs[k].f xs[k].s w1 (HS.out.below h1 (Nat.le_refl _)) hw.key hw.f0 hw.f1)
        have hFS := fun h => okF_step hlt HP.out h
        have hFB := fun h => may_4 H5.out (okF_bad (ks := ks) hlt h)
        clear hw
        generalize xs[k] = x at *
        obtain ⟨x1, x2, x3, x4, x5⟩ := x
        simp only at c0 c1 c2 c3 c4 HF hFS hFB
        have hB1 := hb.alloc hb.size (.cells (aca ⟨x1, x2, x3, x4, x5⟩) 47)
        have hbx := ABox.box ⟨x1, x2, x3, x4, x5⟩ wr 47
        have HFX := Lib.hid (HF.out _ hB1)
        have HB := Lib.hid hB1
        clear HF hB1 hb
        generalize fitsB ks x1 x2 x3 x4 x5 = m at *
        cases m
        · have HN := Lib.hid (hFB rfl)
          clear hFS hFB
          go_wp2_with (go_at_call 45; refine HFX.out.mono ?_; rintro e w2 ⟨rfl, hb2⟩)
          go_ret
          exact ⟨ret_may HN.out.symm, below_add HB.out hb2 HB.out.size⟩
        · have HN := Lib.hid (hFS rfl)
          clear hFS hFB
          go_wp2_with (go_at_call 45; refine HFX.out.mono ?_; rintro e w2 ⟨rfl, hb2⟩)
          go_roundw
          case rel => exact ⟨k + 1, by omega, by go_num, HN, below_add HB.out hb2 HB.out.size⟩
          case measure => simp [intOf]; omega
      · obtain rfl : k = xs.length := by omega
        have HB := Lib.hid hb
        have HG := Lib.hid (may_0 H5.out (okF_end HP.out))
        clear hb
        go_wp2
        go_ret
        exact ⟨ret_may HG.out.symm, HB.out⟩
  · obtain rfl : xs = [] := List.eq_nil_of_length_eq_zero (by omega)
    clear hv h0 hl hW hs H5
    go_enter Tryd.func31, Tryd.ntmps31
    go_wp2_with (go_at_call 44; refine HWF.out.mono ?_; rintro e w1 ⟨rfl, hb1⟩)
    refine wp_loop_rounds 1 ?_
    rw [rounds_succ]
    go_wp2
    go_ret
    exact ⟨rfl, hb1⟩

/-- The worlds of the reference's test. -/
def AtC (b o : Nat) (x : Att) (W W' : World) : Prop := AAt b o x W' ∧ Below W.heap.size W W'
theorem AtC.below {b o : Nat} {x : Att} {W w w' : World} (h : AtC b o x W w) (hb : Below w.heap.size w w') : AtC b o x W w' :=
  ⟨h.1.below hb (World.block_lt_of_cell? _ _ h.1.1), below_add h.2 hb h.2.size⟩

set_option maxRecDepth 100000 in
set_option maxHeartbeats 2000000 in
theorem rmay_any5 (p : Value) (ks : List Key) (v : Value) (xs : List Att) (w : World) (hs : Krow w p ks) (hv : Arow w v xs) (hW : ∀ a ∈ xs, AttW a) (hS : ∀ a ∈ xs, a.s.size ≤ 1048576) :
    Calls Tryd.prog 34 #[p, v] w fun e w' => e = .returned (.int .i64 (may5 ks xs)) ∧ Below w.heap.size w w' := by
  have hl := hv.len
  have hri := rising_any5 v xs w hv
  by_cases hr : Rise xs
  · rw [decide_eq_true hr] at hri
    have HRI := Lib.hid hri
    clear hri
    by_cases hlong : 64 < xs.length
    · have HN := Lib.hid (may_3 (ks := ks) (wf_badL hlong))
      have d1 : decide ((64 : Int) < (xs.length : Int)) = true := by rw [decide_eq_true_iff]; omega
      obtain ⟨a1, cap1, rfl⟩ := hv.shape
      clear hv hs hW hS hr hlong
      go_enter Tryd.func34, Tryd.ntmps34
      go_wp2_with (go_at_call 48; refine HRI.out.mono ?_; rintro e w1 ⟨rfl, q, rfl⟩)
      go_ret
      exact ⟨ret_may HN.out.symm, blw_drewN (Below.refl _ _) q⟩
    have d1 : decide ((64 : Int) < (xs.length : Int)) = false := by rw [decide_eq_false_iff_not]; omega
    have HRL := Lib.hid (show Rise xs ∧ xs.length ≤ 64 from ⟨hr, by omega⟩)
    clear hr hlong
    obtain ⟨a1, cap1, rfl⟩ := hv.shape
    by_cases h0 : 0 < xs.length
    · obtain ⟨b1, o1, rfl, -, -, -, hbl, hat⟩ := Arow.opn hv h0
      have HAT := Lib.hid hat
      have HWA := Lib.hid hW
      have HSZ := Lib.hid hS
      have HS := Lib.hid hs
      clear hv hat hW hs hS
      go_enter Tryd.func34, Tryd.ntmps34
      go_wp2_with (go_at_call 48; refine HRI.out.mono ?_; rintro e w1 ⟨rfl, q, rfl⟩)
      go_loopw [5] (fun s5 wr => ∃ k : Nat, k ≤ xs.length ∧ s5 = .int .i64 k ∧ Hid (okV (xs.take k) = true) ∧ Below w.heap.size w wr) (fun s5 _ => xs.length - (intOf s5).toNat)
      case atStart => exact ⟨0, Nat.zero_le _, rfl, Lib.hid rfl, blw_drewN (Below.refl _ _) q⟩
      case round =>
        obtain ⟨k, hk, rfl, HP, hb⟩ := hrel
        by_cases hlt : k < xs.length
        · obtain ⟨c0, c1, c2, c3, c4⟩ := (HAT.out k hlt).below hb hbl
          have hw := HWA.out _ (List.getElem_mem hlt)
          have hz := HSZ.out _ (List.getElem_mem hlt)
          have HM := Lib.hid (rvmay_any xs[k].k xs[k].n xs[k].f xs[k].s wr hw.f0 hw.f1 hz)
          have hVS := fun h => okV_step hlt HP.out h
          have hVB := fun h => may_3 (ks := ks) (wf_badV (okV_bad hlt h))
          have HB := Lib.hid hb
          clear hw hz hb
          generalize xs[k] = x at *
          obtain ⟨x1, x2, x3, x4, x5⟩ := x
          simp only at c0 c1 c2 c3 c4 HM hVS hVB
          generalize vmay x2 x3 x4 x5 = m at *
          cases m
          · have HN := Lib.hid (hVB rfl)
            clear hVS hVB
            go_wp2_with (go_at_call 49; refine HM.out.mono ?_; rintro e w2 ⟨rfl, hb2⟩)
            go_ret
            exact ⟨ret_may HN.out.symm, below_add HB.out hb2 HB.out.size⟩
          · have HN := Lib.hid (hVS rfl)
            clear hVS hVB
            go_wp2_with (go_at_call 49; refine HM.out.mono ?_; rintro e w2 ⟨rfl, hb2⟩)
            go_roundw
            case rel => exact ⟨k + 1, by omega, by go_num, HN, below_add HB.out hb2 HB.out.size⟩
            case measure => simp [intOf]; omega
        · obtain rfl : k = xs.length := by omega
          have HB := Lib.hid hb
          have H5 := Lib.hid (wf_good HRL.out.1 HRL.out.2 (okV_end HP.out))
          clear hb
          go_wp2_with fail
          go_loopw [6] (fun s6 wr => ∃ k : Nat, k ≤ xs.length ∧ s6 = .int .i64 k ∧ Hid (okF5 ks (xs.take k) = true) ∧ Below w.heap.size w wr) (fun s6 _ => xs.length - (intOf s6).toNat)
          case atStart => exact ⟨0, Nat.zero_le _, rfl, Lib.hid rfl, HB.out⟩
          case round =>
            obtain ⟨k, hk, rfl, HP, hb⟩ := hrel
            by_cases hlt : k < xs.length
            · have hAT := (HAT.out k hlt).below hb hbl
              have hw := HWA.out _ (List.getElem_mem hlt)
              have hz := HSZ.out _ (List.getElem_mem hlt)
              have HF := Lib.hid (fun w1 (h1 : Below w.heap.size w w1) => rfits_any p ks xs[k].key xs[k].k xs[k].n xs[k].f xs[k].s w1 (HS.out.below h1 (Nat.le_refl _)) hw.f0 hw.f1 hz)
              have hFS := fun h => okF_step hlt HP.out h
              have hFB := fun h => may_4 H5.out (okF_bad (ks := ks) hlt h)
              clear hw hz
              generalize xs[k] = x at *
              obtain ⟨x1, x2, x3, x4, x5⟩ := x
              simp only at HF hFS hFB
              generalize fitsB ks x1 x2 x3 x4 x5 = m at *
              have HBR := Lib.hid hb
              have HC0 := Lib.hid (show AtC b1 (o1 + k * 5) ⟨x1, x2, x3, x4, x5⟩ wr wr from ⟨hAT, Below.refl _ _⟩)
              have KF := Lib.hid (fun w9 (hS : AtC b1 (o1 + k * 5) ⟨x1, x2, x3, x4, x5⟩ wr w9) => (HF.out w9 (below_add HBR.out hS.2 HBR.out.size)).mono fun e w' (h : _ ∧ _) => (⟨h.1, hS.below h.2⟩ : _ ∧ AtC b1 (o1 + k * 5) ⟨x1, x2, x3, x4, x5⟩ wr w'))
              clear hb hAT HF
              go_wp2_with fail
              refine region_classw (C := AtC b1 (o1 + k * 5) ⟨x1, x2, x3, x4, x5⟩ wr) (by kernel_rfl) (by kernel_rfl) (HC0.out.below (Below.refl _ _).drew) ?_
              repeat (first
                | (refine w_skip (by rfl) (by rfl) ?_
                   simp only [Act.put, List.setIfInBounds_toArray, List.set_cons_zero, List.set_cons_succ])
                | (first
                     | refine w_val (v := ?_) (by rfl) (fun w9 hS => ?_) ?_
                     | refine w_valg (v := ?_) (by rfl) (by rfl) (fun w9 hS => ?_) ?_
                   rotate_left
                   · obtain ⟨⟨g0, g1, g2, g3, g4⟩, -⟩ := hS
                     go_simp
                     try with_reducible rfl
                   simp only [Act.put, List.setIfInBounds_toArray, List.set_cons_zero, List.set_cons_succ])
                | (first
                     | refine w_call (by rfl) (fun w9 hS => ?_) KF.out ?_
                     | refine w_callg (by rfl) (by rfl) (fun w9 hS => ?_) KF.out ?_
                   · obtain ⟨⟨g0, g1, g2, g3, g4⟩, -⟩ := hS
                     go_simp
                   simp only [Act.put, List.setIfInBounds_toArray, List.set_cons_zero, List.set_cons_succ]))
              refine w_end ?_
              intro w5 T5
              cases m
              · have HN := Lib.hid (hFB rfl)
                clear hFS hFB
                go_wp2_with fail
                go_ret
                exact ⟨ret_may HN.out.symm, below_add HBR.out T5.2 HBR.out.size⟩
              · have HN := Lib.hid (hFS rfl)
                have HT := Lib.hid T5.2
                clear hFS hFB
                go_wp2_with fail
                go_roundw
                case rel => exact ⟨k + 1, by omega, by go_num, HN, below_add HBR.out HT.out HBR.out.size⟩
                case measure => simp [intOf]; omega
            · obtain rfl : k = xs.length := by omega
              have HB := Lib.hid hb
              have HG := Lib.hid (may_0 H5.out (okF_end HP.out))
              clear hb
              go_wp2
              go_ret
              exact ⟨ret_may HG.out.symm, HB.out⟩
    · obtain rfl : xs = [] := List.eq_nil_of_length_eq_zero (by omega)
      clear hv h0 hl hW hs hS HRL
      go_enter Tryd.func34, Tryd.ntmps34
      go_wp2_with (go_at_call 48; refine HRI.out.mono ?_; rintro e w1 ⟨rfl, q, rfl⟩)
      refine wp_loop_rounds 1 ?_
      rw [rounds_succ]
      go_wp2
      refine wp_loop_rounds 1 ?_
      rw [rounds_succ]
      go_wp2
      go_ret
      exact ⟨rfl, blw_drewN (Below.refl _ _) q⟩
  · rw [decide_eq_false hr] at hri
    have HRI := Lib.hid hri
    have HN := Lib.hid (may_3 (ks := ks) (wf_badR hr))
    obtain ⟨a1, cap1, rfl⟩ := hv.shape
    clear hri hv hs hW hS hr
    go_enter Tryd.func34, Tryd.ntmps34
    go_wp2_with (go_at_call 48; refine HRI.out.mono ?_; rintro e w1 ⟨rfl, q, rfl⟩)
    go_ret
    exact ⟨ret_may HN.out.symm, blw_drewN (Below.refl _ _) q⟩
end Go.Proofs.YtiobcifpebehnaaDoor
