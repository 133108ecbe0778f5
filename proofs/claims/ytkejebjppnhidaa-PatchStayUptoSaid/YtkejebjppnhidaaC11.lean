
import Derived.Test.YtkejebjppnhidaaC9
/- C11: the reference's May -/
namespace Go.Proofs.Ytkejebjppnhidaa
open Go.RowKit
set_option linter.unusedVariables false

def rOk (c : Chg) : Bool := if c.g then zv c else vmay c.k c.n c.f c.s
def rFit (ks : List Key) (c : Chg) : Bool := isIn ks c && (c.g || fitsB ks c.key c.k c.n c.f c.s)
theorem rok_all (xs : List Chg) : xs.all rOk = (xs.all gOk && okV (ats xs)) := by
  induction xs with
  | nil => rfl
  | cons x r ih =>
    have e : ats (x :: r) = if x.g then ats r else toA x :: ats r := by unfold ats; cases h : x.g <;> simp [h]
    rw [e, List.all_cons, ih]
    unfold rOk gOk okV
    cases h : x.g <;> simp [h, Bool.and_left_comm, Bool.and_assoc]
theorem fits_isIn {ks : List Key} {c : Chg} (h : fitsB ks c.key c.k c.n c.f c.s = true) : isIn ks c = true := by
  unfold isIn
  cases hf : fnd ks c.key with
  | none => rw [fitsB_none hf] at h; cases h
  | some k => rfl
theorem rfit_all (ks : List Key) (xs : List Chg) : xs.all (rFit ks) = (okF5 ks (ats xs) && xs.all (isIn ks)) := by
  induction xs with
  | nil => rfl
  | cons x r ih =>
    have e : ats (x :: r) = if x.g then ats r else toA x :: ats r := by unfold ats; cases h : x.g <;> simp [h]
    rw [e, List.all_cons, ih]
    unfold rFit okF5
    cases h : x.g
    · cases hf : fitsB ks x.key x.k x.n x.f x.s
      · simp [hf]
      · simp [hf, fits_isIn hf]
    · simp [Bool.and_left_comm]
theorem may6_bad2 {ks : List Key} {xs : List Chg} (h : xs.all rOk = false) : may6 ks xs = 3 := by
  rw [rok_all] at h
  unfold may6 wf6
  cases h1 : xs.all gOk
  · simp
  · rw [h1, Bool.true_and] at h; simp [h]
theorem may6_rest {ks : List Key} {xs : List Chg} (h1 : RiseC xs) (h2 : xs.length ≤ 64) (h3 : xs.all rOk = true) : may6 ks xs = if xs.all (rFit ks) then 0 else 4 := by
  rw [rok_all, Bool.and_eq_true] at h3
  unfold may6
  rw [wf6_good h1 h2 h3.1, h3.2, rfit_all]
  rfl
theorem rok_step {xs : List Chg} {k : Nat} (h : k < xs.length) (hp : (xs.take k).all rOk = true) (hx : rOk xs[k] = true) : (xs.take (k + 1)).all rOk = true := by rw [tsnoc h, List.all_append, hp]; simpa using hx
theorem rok_bad {xs : List Chg} {k : Nat} (h : k < xs.length) (hx : rOk xs[k] = false) : xs.all rOk = false := by rw [List.all_eq_false]; exact ⟨_, List.getElem_mem h, by rw [hx]; exact Bool.false_ne_true⟩
theorem rfit_step {ks : List Key} {xs : List Chg} {k : Nat} (h : k < xs.length) (hp : (xs.take k).all (rFit ks) = true) (hx : rFit ks xs[k] = true) : (xs.take (k + 1)).all (rFit ks) = true := by rw [tsnoc h, List.all_append, hp]; simpa using hx
theorem rfit_bad {ks : List Key} {xs : List Chg} {k : Nat} (h : k < xs.length) (hx : rFit ks xs[k] = false) : xs.all (rFit ks) = false := by rw [List.all_eq_false]; exact ⟨_, List.getElem_mem h, by rw [hx]; exact Bool.false_ne_true⟩

/-- The worlds of the reference's test. -/
def CtC (b o : Nat) (x : Chg) (W W' : World) : Prop := CAt b o x W' ∧ Below W.heap.size W W'
theorem CtC.below {b o : Nat} {x : Chg} {W w w' : World} (h : CtC b o x W w) (hb : Below w.heap.size w w') : CtC b o x W w' :=
  ⟨h.1.below hb h.1.lt, below_add h.2 hb h.2.size⟩

set_option maxRecDepth 100000 in
set_option maxHeartbeats 2000000 in
theorem rmay_any6 (p : Value) (ks : List Key) (v : Value) (xs : List Chg) (w : World) (hs : Krow w p ks) (hv : Crow w v xs) (hW : ∀ a ∈ xs, ChgW a) (hS : xs.length ≤ 64 → ∀ a ∈ xs, a.s.size ≤ 1000000) :
    Calls Try.prog 14 #[p, v] w fun e w' => e = .returned (.int .i64 (may6 ks xs)) ∧ Below w.heap.size w w' := by
  have hl := hv.len
  have hri := rising_any6 v xs w hv
  by_cases hr : RiseC xs
  · rw [decide_eq_true hr] at hri
    have HRI := Lib.hid hri
    clear hri
    by_cases hlong : 64 < xs.length
    · have HN := Lib.hid (may6_bad (ks := ks) (wf6_badL hlong))
      have d1 : decide ((64 : Int) < (xs.length : Int)) = true := by rw [decide_eq_true_iff]; omega
      obtain ⟨a1, cap1, rfl⟩ := hv.shape
      clear hv hs hW hS hr hlong
      go_enter Try.func14, Try.ntmps14
      go_wp2_with (go_at_call 19; refine HRI.out.mono ?_; rintro e w1 ⟨rfl, q, rfl⟩)
      go_ret
      exact ⟨ret_may HN.out.symm, blw_drewN (Below.refl _ _) q⟩
    have d1 : decide ((64 : Int) < (xs.length : Int)) = false := by rw [decide_eq_false_iff_not]; omega
    have HRL := Lib.hid (show RiseC xs ∧ xs.length ≤ 64 from ⟨hr, by omega⟩)
    have hS := hS (by omega)
    clear hr hlong
    obtain ⟨a1, cap1, rfl⟩ := hv.shape
    by_cases h0 : 0 < xs.length
    · obtain ⟨b1, o1, rfl, -, -, -, hbl, hat⟩ := Crow.opn hv h0
      have HAT := Lib.hid hat
      have HWA := Lib.hid hW
      have HSZ := Lib.hid hS
      have HS := Lib.hid hs
      clear hv hat hW hs hS
      go_enter Try.func14, Try.ntmps14
      go_wp2_with (go_at_call 19; refine HRI.out.mono ?_; rintro e w1 ⟨rfl, q, rfl⟩)
      go_loopw [5] (fun s5 wr => ∃ k : Nat, k ≤ xs.length ∧ s5 = .int .i64 k ∧ Hid ((xs.take k).all rOk = true) ∧ Below w.heap.size w wr) (fun s5 _ => xs.length - (intOf s5).toNat)
      case atStart => exact ⟨0, Nat.zero_le _, rfl, Lib.hid rfl, blw_drewN (Below.refl _ _) q⟩
      case round =>
        obtain ⟨k, hk, rfl, HP, hb⟩ := hrel
        by_cases hlt : k < xs.length
        · obtain ⟨c0, c1, c2, c3, c4, c5⟩ := (HAT.out k hlt).below hb hbl
          have hw := HWA.out _ (List.getElem_mem hlt)
          have hz := HSZ.out _ (List.getElem_mem hlt)
          have HM := Lib.hid (rvmay_any xs[k].k xs[k].n xs[k].f xs[k].s wr hw.f0 hw.f1 hz)
          have hNQ := fun w => vneq xs[k].k xs[k].n xs[k].f 0 0 0 xs[k].s ⟨#[]⟩ w
          have hZ : zv xs[k] = ((xs[k].k == 0) && (xs[k].n == 0) && (xs[k].f == 0) && (xs[k].s.toList == (⟨#[]⟩ : ByteArray).toList)) := rfl
          have hG : rOk xs[k] = if xs[k].g then zv xs[k] else vmay xs[k].k xs[k].n xs[k].f xs[k].s := rfl
          rw [← hZ] at hNQ
          have hVS := fun h => rok_step hlt HP.out h
          have hVB := fun h => may6_bad2 (ks := ks) (rok_bad hlt h)
          rw [hG] at hVS hVB
          have HB := Lib.hid hb
          clear hw hz hb hG hZ
          generalize zv xs[k] = z at *
          generalize xs[k] = x at *
          obtain ⟨x1, x0, x2, x3, x4, x5⟩ := x
          simp only at c0 c1 c2 c3 c4 c5 HM hVS hVB hNQ
          generalize vmay x2 x3 x4 x5 = m at *
          cases x0
          · clear hNQ
            cases m
            · have HN := Lib.hid (hVB rfl)
              clear hVS hVB
              go_wp2_with (go_at_call 37; refine HM.out.mono ?_; rintro e w2 ⟨rfl, hb2⟩)
              go_ret
              exact ⟨ret_may HN.out.symm, below_add HB.out hb2 HB.out.size⟩
            · have HN := Lib.hid (hVS rfl)
              clear hVS hVB
              go_wp2_with (go_at_call 37; refine HM.out.mono ?_; rintro e w2 ⟨rfl, hb2⟩)
              go_roundw
              case rel => exact ⟨k + 1, by omega, by go_num, HN, below_add HB.out hb2 HB.out.size⟩
              case measure => simp [intOf]; omega
          · cases z
            · have HN := Lib.hid (hVB rfl)
              clear hVS hVB HM
              go_wp2
              go_ret
              exact ⟨ret_may HN.out.symm, HB.out⟩
            · have HN := Lib.hid (hVS rfl)
              clear hVS hVB HM
              go_wp2
              go_roundw
              case rel => exact ⟨k + 1, by omega, by go_num, HN, HB.out⟩
              case measure => simp [intOf]; omega
        · obtain rfl : k = xs.length := by omega
          have HB := Lib.hid hb
          have hp := HP.out
          rw [tend] at hp
          have H6 := Lib.hid (may6_rest (ks := ks) HRL.out.1 HRL.out.2 hp)
          clear hb hp
          go_wp2_with fail
          go_loopw [6] (fun s6 wr => ∃ k : Nat, k ≤ xs.length ∧ s6 = .int .i64 k ∧ Hid ((xs.take k).all (rFit ks) = true) ∧ Below w.heap.size w wr) (fun s6 _ => xs.length - (intOf s6).toNat)
          case atStart => exact ⟨0, Nat.zero_le _, rfl, Lib.hid rfl, HB.out⟩
          case round =>
            obtain ⟨k, hk, rfl, HP, hb⟩ := hrel
            by_cases hlt : k < xs.length
            · have hAT := (HAT.out k hlt).below hb hbl
              have hw := HWA.out _ (List.getElem_mem hlt)
              have hz := HSZ.out _ (List.getElem_mem hlt)
              have HFT := Lib.hid (fun w1 (h1 : Below w.heap.size w w1) => rfits_any p ks xs[k].key xs[k].k xs[k].n xs[k].f xs[k].s w1 (HS.out.below h1 (Nat.le_refl _)) hw.f0 hw.f1 hz)
              have HFD := Lib.hid (fun w1 (h1 : Below w.heap.size w w1) => rfind_any p ks xs[k].key w1 (HS.out.below h1 (Nat.le_refl _)))
              have hFS := fun h => rfit_step (ks := ks) hlt HP.out h
              have hFB := fun h => (by rw [H6.out, rfit_bad (ks := ks) hlt h]; rfl : may6 ks xs = 4)
              have hRF : rFit ks xs[k] = ((fnd ks xs[k].key).isSome && (xs[k].g || fitsB ks xs[k].key xs[k].k xs[k].n xs[k].f xs[k].s)) := rfl
              rw [hRF] at hFS hFB
              clear hw hz hRF
              generalize xs[k] = x at *
              have HAT2 := Lib.hid hAT
              have HBR := Lib.hid hb
              have hsz := hb.size
              obtain ⟨x1, x0, x2, x3, x4, x5⟩ := x
              simp only at HFT HFD hFS hFB
              obtain ⟨c0, c1, c2, c3, c4, c5⟩ := hAT
              simp only at c0 c1 c2 c3 c4 c5
              have h3 := HFD.out wr HBR.out
              clear HFD hb
              generalize fitsB ks x1 x2 x3 x4 x5 = m at *
              cases hf : fnd ks x1 with
              | none =>
                rw [fndV_none hf] at h3
                have HF3 := Lib.hid h3
                have HN := Lib.hid (hFB (by rw [hf]; rfl))
                clear hFS hFB h3 hf HFT
                go_wp2_with (go_at_call 38; refine HF3.out.mono ?_; rintro e w2 ⟨rfl, hb2⟩)
                have hb9 := below_add HBR.out hb2 HBR.out.size
                have HB9 := Lib.hid (hb9.alloc hb9.size (.cells (kca noKey) 70))
                have hC0 := HAT2.out.below (hb2.alloc hb2.size (.cells (kca noKey) 70)) HAT2.out.lt
                generalize hW9 : w2.alloc (.cells _ 70) = W9 at *
                clear hb9 hb2 c0 c1 c2 c3 c4 c5 hW9
                obtain ⟨c0, c1, c2, c3, c4, c5⟩ := hC0
                simp only at c0 c1 c2 c3 c4 c5
                go_quiet (fail)
                go_wp2
                go_ret
                exact ⟨ret_may HN.out.symm, blw_drewN HB9.out _⟩
              | some key =>
                rw [fndV_some hf] at h3
                have HF3 := Lib.hid h3
                rw [hf] at hFS hFB
                simp only [Option.isSome_some, Bool.true_and] at hFS hFB
                clear h3 hf
                obtain ⟨y1, y2, y3, y4, y5, y6⟩ := key
                cases x0
                · simp only [Bool.false_or] at hFS hFB
                  go_wp2_with (go_at_call 38; refine HF3.out.mono ?_; rintro e w2 ⟨rfl, hb2⟩)
                  have hb9 := below_add HBR.out hb2 HBR.out.size
                  have HB9 := Lib.hid (hb9.alloc hb9.size (.cells (kca ⟨y1, y2, y3, y4, y5, y6⟩) 70))
                  have hC0 := HAT2.out.below (hb2.alloc hb2.size (.cells (kca ⟨y1, y2, y3, y4, y5, y6⟩) 70)) HAT2.out.lt
                  generalize hW9 : w2.alloc (.cells _ 70) = W9 at *
                  clear hb9 hb2 c0 c1 c2 c3 c4 c5 hW9
                  have HC0 := Lib.hid (show CtC b1 (o1 + k * 6) ⟨x1, false, x2, x3, x4, x5⟩ W9 W9 from ⟨hC0, Below.refl _ _⟩)
                  have KF := Lib.hid (fun w9 (hS : CtC b1 (o1 + k * 6) ⟨x1, false, x2, x3, x4, x5⟩ W9 w9) => (HFT.out w9 (below_add HB9.out hS.2 HB9.out.size)).mono fun e w' (h : _ ∧ _) => (⟨h.1, hS.below h.2⟩ : _ ∧ CtC b1 (o1 + k * 6) ⟨x1, false, x2, x3, x4, x5⟩ W9 w'))
                  clear hC0 HFT
                  refine region_classw (C := CtC b1 (o1 + k * 6) ⟨x1, false, x2, x3, x4, x5⟩ W9) (by kernel_rfl) (by kernel_rfl) (HC0.out.below (Below.refl _ _).drew) ?_
                  repeat (first
                    | (refine w_skip (by rfl) (by rfl) ?_
                       simp only [Act.put, List.setIfInBounds_toArray, List.set_cons_zero, List.set_cons_succ])
                    | (first
                         | refine w_val (v := ?_) (by rfl) (fun w9 hS => ?_) ?_
                         | refine w_valg (v := ?_) (by rfl) (by rfl) (fun w9 hS => ?_) ?_
                       rotate_left
                       · obtain ⟨⟨g0, g1, g2, g3, g4, g5⟩, -⟩ := hS
                         go_simp
                         try with_reducible rfl
                       simp only [Act.put, List.setIfInBounds_toArray, List.set_cons_zero, List.set_cons_succ])
                    | (first
                         | refine w_call (by rfl) (fun w9 hS => ?_) KF.out ?_
                         | refine w_callg (by rfl) (by rfl) (fun w9 hS => ?_) KF.out ?_
                       · obtain ⟨⟨g0, g1, g2, g3, g4, g5⟩, -⟩ := hS
                         go_simp
                       simp only [Act.put, List.setIfInBounds_toArray, List.set_cons_zero, List.set_cons_succ]))
                  refine w_end ?_
                  intro w5 T5
                  cases m
                  · have HN := Lib.hid (hFB rfl)
                    clear hFS hFB
                    go_wp2_with fail
                    go_ret
                    exact ⟨ret_may HN.out.symm, below_add HB9.out T5.2 HB9.out.size⟩
                  · have HN := Lib.hid (hFS rfl)
                    have HT := Lib.hid T5.2
                    clear hFS hFB
                    go_wp2_with fail
                    go_roundw
                    case rel => exact ⟨k + 1, by omega, by go_num, HN, below_add HB9.out HT.out HB9.out.size⟩
                    case measure => simp [intOf]; omega
                · have HN := Lib.hid (hFS (by simp))
                  clear hFS hFB HFT
                  go_wp2_with (go_at_call 38; refine HF3.out.mono ?_; rintro e w2 ⟨rfl, hb2⟩)
                  have hb9 := below_add HBR.out hb2 HBR.out.size
                  have HB9 := Lib.hid (hb9.alloc hb9.size (.cells (kca ⟨y1, y2, y3, y4, y5, y6⟩) 70))
                  have hC0 := HAT2.out.below (hb2.alloc hb2.size (.cells (kca ⟨y1, y2, y3, y4, y5, y6⟩) 70)) HAT2.out.lt
                  generalize hW9 : w2.alloc (.cells _ 70) = W9 at *
                  clear hb9 hb2 c0 c1 c2 c3 c4 c5 hW9
                  obtain ⟨c0, c1, c2, c3, c4, c5⟩ := hC0
                  simp only at c0 c1 c2 c3 c4 c5
                  go_quiet (fail)
                  go_wp2
                  go_roundw
                  case rel => exact ⟨k + 1, by omega, by go_num, HN, blw_drewN HB9.out _⟩
                  case measure => simp [intOf]; omega
            · obtain rfl : k = xs.length := by omega
              have HB := Lib.hid hb
              have hp := HP.out
              rw [tend] at hp
              have HG := Lib.hid (show may6 ks xs = 0 by rw [H6.out, hp]; rfl)
              clear hb hp
              go_wp2
              go_ret
              exact ⟨ret_may HG.out.symm, HB.out⟩
    · obtain rfl : xs = [] := List.eq_nil_of_length_eq_zero (by omega)
      have HG := Lib.hid (show may6 ks [] = 0 by rw [may6_rest HRL.out.1 HRL.out.2 rfl]; rfl)
      clear hv h0 hl hW hs hS HRL
      go_enter Try.func14, Try.ntmps14
      go_wp2_with (go_at_call 19; refine HRI.out.mono ?_; rintro e w1 ⟨rfl, q, rfl⟩)
      refine wp_loop_rounds 1 ?_
      rw [rounds_succ]
      go_wp2
      refine wp_loop_rounds 1 ?_
      rw [rounds_succ]
      go_wp2
      go_ret
      exact ⟨ret_may HG.out.symm, blw_drewN (Below.refl _ _) q⟩
  · rw [decide_eq_false hr] at hri
    have HRI := Lib.hid hri
    have HN := Lib.hid (may6_bad (ks := ks) (wf6_badR hr))
    obtain ⟨a1, cap1, rfl⟩ := hv.shape
    clear hri hv hs hW hS hr
    go_enter Try.func14, Try.ntmps14
    go_wp2_with (go_at_call 19; refine HRI.out.mono ?_; rintro e w1 ⟨rfl, q, rfl⟩)
    go_ret
    exact ⟨ret_may HN.out.symm, blw_drewN (Below.refl _ _) q⟩
end Go.Proofs.Ytkejebjppnhidaa
