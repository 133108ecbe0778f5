
import Derived.Test.YtoienmcgcefdiaaS14
import Derived.Test.YtoienmcgcefdiaaS10
/- S19: SchemaFits -/
namespace Go.Proofs.Ytoienmcgcefdiaa
open Go.RowKit
set_option linter.unusedVariables false

/-- The array of four values, at a block's head. -/
@[reducible] def four : Array Value := #[.int .u8 1, .int .i64 0, .int .u64 0, .string ⟨#[]⟩, .int .u8 2, .int .i64 (-5), .int .u64 0, .string ⟨#[]⟩, .int .u8 3, .int .i64 0, .int .u64 9221120237041090560, .string ⟨#[]⟩, .int .u8 4, .int .i64 0, .int .u64 0, .string ⟨#[97]⟩]

/-- How many of the four fit, of the first j. -/
def fitN (ks : List Key) (id : Int) (j : Nat) : Nat :=
  (if 0 < j ∧ fitsB ks id 1 0 0 ⟨#[]⟩ = true then 1 else 0) + (if 1 < j ∧ fitsB ks id 2 (-5) 0 ⟨#[]⟩ = true then 1 else 0) + (if 2 < j ∧ fitsB ks id 3 0 9221120237041090560 ⟨#[]⟩ = true then 1 else 0) + (if 3 < j ∧ fitsB ks id 4 0 0 ⟨#[97]⟩ = true then 1 else 0)

theorem fitN_step (ks : List Key) (id : Int) : fitN ks id 0 = 0 ∧ fitN ks id 1 = fitN ks id 0 + (if fitsB ks id 1 0 0 ⟨#[]⟩ = true then 1 else 0) ∧ fitN ks id 2 = fitN ks id 1 + (if fitsB ks id 2 (-5) 0 ⟨#[]⟩ = true then 1 else 0) ∧
    fitN ks id 3 = fitN ks id 2 + (if fitsB ks id 3 0 9221120237041090560 ⟨#[]⟩ = true then 1 else 0) ∧ fitN ks id 4 = fitN ks id 3 + (if fitsB ks id 4 0 0 ⟨#[97]⟩ = true then 1 else 0) := by
  unfold fitN
  simp
theorem fitN_le (ks : List Key) (id : Int) (j : Nat) : fitN ks id j ≤ 4 := by
  unfold fitN
  split <;> split <;> split <;> split <;> omega
theorem q_may1 : vmay 1 0 0 ⟨#[]⟩ = true := by unfold vmay; rw [decide_eq_true_iff]; exact .inl ⟨rfl, .inl rfl, rfl, rfl⟩
theorem q_may2 : vmay 2 (-5) 0 ⟨#[]⟩ = true := by unfold vmay; rw [decide_eq_true_iff]; exact .inr (.inl ⟨rfl, rfl, rfl⟩)
theorem q_canon : canonI 9221120237041090560 = 9221120237041090560 := by decide
theorem q_may3 : vmay 3 0 9221120237041090560 ⟨#[]⟩ = true := by unfold vmay; rw [decide_eq_true_iff]; exact .inr (.inr (.inl ⟨rfl, rfl, q_canon, rfl⟩))
theorem q_text : textB ⟨#[97]⟩ = true := by decide
theorem q_may4 : vmay 4 0 0 ⟨#[97]⟩ = true := by unfold vmay; rw [decide_eq_true_iff]; exact .inr (.inr (.inr ⟨rfl, rfl, rfl, q_text⟩))
theorem q_may5 : vmay 3 0 9221120237041090561 ⟨#[]⟩ = false := by
  have h : (!nanI 9221120237041090561 || (9221120237041090561 : Int) == 9221120237041090560) = false := by decide
  rw [rvmay3, h, Bool.and_false]
theorem mayK_kind {k : Key} (h : mayK k = true) : 1 ≤ k.kind ∧ k.kind ≤ 4 := by
  unfold mayK at h; rw [decide_eq_true_iff] at h; exact ⟨h.2.2.1, h.2.2.2.1⟩
theorem fitN_none {ks : List Key} {id : Int} (h : fnd ks id = none) : fitN ks id 4 = 0 := by
  unfold fitN
  simp [fitsB_none h]
theorem fitN_some {ks : List Key} {id : Int} {key : Key} (hg : Good ks) (h : fnd ks id = some key) : fitN ks id 4 = 1 := by
  have hk := mayK_kind (hg.1 key (fnd_some h).1)
  unfold fitN
  rw [fitsB_some h, fitsB_some h, fitsB_some h, fitsB_some h, q_may1, q_may2, q_may3, q_may4]
  obtain ⟨k1, k2, k3, k4, k5, k6⟩ := key
  simp only at hk
  have : k3 = 1 ∨ k3 = 2 ∨ k3 = 3 ∨ k3 = 4 := by omega
  rcases this with rfl | rfl | rfl | rfl <;> simp
theorem fitsB_zero {ks : List Key} {id : Int} (hg : Good ks) : fitsB ks id 0 0 0 ⟨#[]⟩ = false := by
  cases h : fnd ks id with
  | none => exact fitsB_none h
  | some key =>
    have hk := mayK_kind (hg.1 key (fnd_some h).1)
    rw [fitsB_some h]
    have : (0 == key.kind) = false := by rw [beq_eq_false_iff_ne]; omega
    rw [this, Bool.false_and]
theorem fitsB_nan {ks : List Key} {id : Int} : fitsB ks id 3 0 9221120237041090561 ⟨#[]⟩ = false := by
  cases h : fnd ks id with
  | none => exact fitsB_none h
  | some key => rw [fitsB_some h, q_may5, Bool.and_false]
theorem four_at (w : World) (t : TypeId) (W : World) (hW : w.alloc (.cells four t) = W) : (W.cell? ⟨w.heap.size, 0, none⟩ = some (.int .u8 1) ∧ W.cell? ⟨w.heap.size, 1, none⟩ = some (.int .i64 0) ∧ W.cell? ⟨w.heap.size, 2, none⟩ = some (.int .u64 0) ∧ W.cell? ⟨w.heap.size, 3, none⟩ = some (.string ⟨#[]⟩)) ∧
    (W.cell? ⟨w.heap.size, 4, none⟩ = some (.int .u8 2) ∧ W.cell? ⟨w.heap.size, 5, none⟩ = some (.int .i64 (-5)) ∧ W.cell? ⟨w.heap.size, 6, none⟩ = some (.int .u64 0) ∧ W.cell? ⟨w.heap.size, 7, none⟩ = some (.string ⟨#[]⟩)) ∧
    (W.cell? ⟨w.heap.size, 8, none⟩ = some (.int .u8 3) ∧ W.cell? ⟨w.heap.size, 9, none⟩ = some (.int .i64 0) ∧ W.cell? ⟨w.heap.size, 10, none⟩ = some (.int .u64 9221120237041090560) ∧ W.cell? ⟨w.heap.size, 11, none⟩ = some (.string ⟨#[]⟩)) ∧
    (W.cell? ⟨w.heap.size, 12, none⟩ = some (.int .u8 4) ∧ W.cell? ⟨w.heap.size, 13, none⟩ = some (.int .i64 0) ∧ W.cell? ⟨w.heap.size, 14, none⟩ = some (.int .u64 0) ∧ W.cell? ⟨w.heap.size, 15, none⟩ = some (.string ⟨#[97]⟩)) ∧ w.heap.size < W.heap.size := by
  subst hW
  refine ⟨⟨?_, ?_, ?_, ?_⟩, ⟨?_, ?_, ?_, ?_⟩, ⟨?_, ?_, ?_, ?_⟩, ⟨?_, ?_, ?_, ?_⟩, by simp⟩ <;> (rw [cell_of_row _ w.heap.size _ _ t (0, 0) (heap_alloc_new w _)]; rfl)

set_option maxRecDepth 100000 in
theorem fits_bad (v : Value) (ks : List Key) (id : Int) (w : World) (hv : Krow w v ks) (hW : ∀ k ∈ ks, KeyW k) (hm : ¬ mayKs ks) :
    Calls Try.prog 6 #[v, .int .i64 id] w fun e w' => e = .returned (.bool true) ∧ Below w.heap.size w w' := by
  have HKN := Lib.hid (fun w => skn_any w)
  have HN := Lib.hid (new_no hv hW hm)
  clear hv hm
  go_enter Try.func6, Try.ntmps6
  go_wp2_with (first
    | (go_at_call 8; ((with_reducible refine HN.out.mono ?_); rintro e w1 ⟨rfl, hb1⟩))
    | (go_at_call 7; refine (HKN.out _).mono ?_; rintro e w' ⟨rfl, hb⟩))
  go_ret
  exact ⟨rfl, below_add hb1 hb hb1.size⟩

set_option maxRecDepth 100000 in
set_option maxHeartbeats 1000000 in
theorem fits_good (v : Value) (ks : List Key) (id : Int) (w : World) (hv : Krow w v ks) (hW : ∀ k ∈ ks, KeyW k) (hm : mayKs ks) (hw : (Lit.int .i64 id).wf = true) :
    Calls Try.prog 6 #[v, .int .i64 id] w fun e w' => e = .returned (.bool true) ∧ Below w.heap.size w w' := by
  have HKN := Lib.hid (fun w => skn_any w)
  have HN := Lib.hid (new_yes hv hW hm)
  obtain ⟨a, cap, rfl⟩ := hv.shape
  have hl := hm.1
  clear hv
  have d64 : decide ((64 : Int) < (ks.length : Int)) = false := by rw [decide_eq_false_iff_not]; omega
  go_enter Try.func6, Try.ntmps6
  go_wp2_with (first
    | (go_at_call 8; ((with_reducible refine HN.out.mono ?_); rintro e w1 ⟨s, rfl, hs, hb1⟩)))
  generalize hW0 : w1.alloc (.cells four 50) = W0
  obtain ⟨hq0, hq1, hq2, hq3, hBW⟩ := four_at w1 _ W0 hW0
  have HS := Lib.hid (hs.below (hW0 ▸ (Below.refl w1.heap.size w1).alloc (Nat.le_refl _) _) (Nat.le_refl _))
  have HB0 := Lib.hid (hW0 ▸ hb1.alloc hb1.size (.cells four 50) : Below w.heap.size w W0)
  have HZ := Lib.hid (fun W hs => by have := fits_any (.pointer (some s)) ks id 0 0 0 ⟨#[]⟩ W hs hw (by decide) (by decide); rw [fitsB_zero hm.2] at this; exact this)
  have HX := Lib.hid (fun W hs => by have := fits_any (.pointer (some s)) ks id 3 0 9221120237041090561 ⟨#[]⟩ W hs hw (by decide) (by decide); rw [fitsB_nan] at this; exact this)
  have ST := Lib.hid (fitN_step ks id)
  have hini := ST.out.1
  clear hW0 hs hb1
  generalize w1.heap.size = B at *
  go_loopw [8, 30] (fun c i wr => ∃ j : Nat, j ≤ 4 ∧ i = .int .i64 j ∧ c = .int .i64 (fitN ks id j) ∧ Below W0.heap.size W0 wr) (fun _ i _ => 4 - (intOf i).toNat)
  case atStart => exact ⟨0, by omega, rfl, by rw [hini]; rfl, Below.refl _ _⟩
  case round =>
    clear hini
    obtain ⟨j, hj, rfl, rfl, hE⟩ := hrel
    by_cases hlt : j < 4
    · skip
      by_cases hj0 : j = 0
      · subst hj0
        obtain ⟨g0, g1, g2, g3⟩ := hq0
        have c0 := (hE.cell (p := ⟨B, 0, none⟩) hBW).trans g0
        have c1 := (hE.cell (p := ⟨B, 1, none⟩) hBW).trans g1
        have c2 := (hE.cell (p := ⟨B, 2, none⟩) hBW).trans g2
        have c3 := (hE.cell (p := ⟨B, 3, none⟩) hBW).trans g3
        have HF := fits_any (.pointer (some s)) ks id 1 0 0 ⟨#[]⟩ wr (HS.out.below hE (Nat.le_refl _)) hw (by decide) (by decide)
        have hst := ST.out.2.1
        generalize fitsB ks id 1 0 0 ⟨#[]⟩ = bb at HF hst
        clear hq1 hq2 hq3 g0 g1 g2 g3
        have hm0 := fitN_le ks id 0
        generalize fitN ks id 0 = m0 at hst hm0 ⊢
        have HF := Lib.hid HF
        have HE := Lib.hid hE
        clear hE
        cases bb
        · have HST := Lib.hid (show fitN ks id 1 = m0 by simpa using hst)
          clear hst
          go_wp2_with (go_at_call 17; ((with_reducible refine HF.out.mono ?_); rintro e w2 ⟨rfl, hb2⟩))
          go_roundw
          case rel => exact ⟨1, by omega, by first | rfl | go_num, by rw [HST.out], below_add HE.out hb2 HE.out.size⟩
          case measure => simp [intOf]
        · have HST := Lib.hid (show fitN ks id 1 = m0 + 1 by simpa using hst)
          clear hst
          go_wp2_with (go_at_call 17; ((with_reducible refine HF.out.mono ?_); rintro e w2 ⟨rfl, hb2⟩))
          go_roundw
          case rel => exact ⟨1, by omega, by first | rfl | go_num, by rw [HST.out]; go_num, below_add HE.out hb2 HE.out.size⟩
          case measure => simp [intOf]
      by_cases hj1 : j = 1
      · subst hj1
        obtain ⟨g0, g1, g2, g3⟩ := hq1
        have c0 := (hE.cell (p := ⟨B, 4, none⟩) hBW).trans g0
        have c1 := (hE.cell (p := ⟨B, 5, none⟩) hBW).trans g1
        have c2 := (hE.cell (p := ⟨B, 6, none⟩) hBW).trans g2
        have c3 := (hE.cell (p := ⟨B, 7, none⟩) hBW).trans g3
        have HF := fits_any (.pointer (some s)) ks id 2 (-5) 0 ⟨#[]⟩ wr (HS.out.below hE (Nat.le_refl _)) hw (by decide) (by decide)
        have hst := ST.out.2.2.1
        generalize fitsB ks id 2 (-5) 0 ⟨#[]⟩ = bb at HF hst
        clear hq0 hq2 hq3 g0 g1 g2 g3
        have hm0 := fitN_le ks id 1
        generalize fitN ks id 1 = m0 at hst hm0 ⊢
        have HF := Lib.hid HF
        have HE := Lib.hid hE
        clear hE
        cases bb
        · have HST := Lib.hid (show fitN ks id 2 = m0 by simpa using hst)
          clear hst
          go_wp2_with (go_at_call 17; ((with_reducible refine HF.out.mono ?_); rintro e w2 ⟨rfl, hb2⟩))
          go_roundw
          case rel => exact ⟨2, by omega, by first | rfl | go_num, by rw [HST.out], below_add HE.out hb2 HE.out.size⟩
          case measure => simp [intOf]
        · have HST := Lib.hid (show fitN ks id 2 = m0 + 1 by simpa using hst)
          clear hst
          go_wp2_with (go_at_call 17; ((with_reducible refine HF.out.mono ?_); rintro e w2 ⟨rfl, hb2⟩))
          go_roundw
          case rel => exact ⟨2, by omega, by first | rfl | go_num, by rw [HST.out]; go_num, below_add HE.out hb2 HE.out.size⟩
          case measure => simp [intOf]
      by_cases hj2 : j = 2
      · subst hj2
        obtain ⟨g0, g1, g2, g3⟩ := hq2
        have c0 := (hE.cell (p := ⟨B, 8, none⟩) hBW).trans g0
        have c1 := (hE.cell (p := ⟨B, 9, none⟩) hBW).trans g1
        have c2 := (hE.cell (p := ⟨B, 10, none⟩) hBW).trans g2
        have c3 := (hE.cell (p := ⟨B, 11, none⟩) hBW).trans g3
        have HF := fits_any (.pointer (some s)) ks id 3 0 9221120237041090560 ⟨#[]⟩ wr (HS.out.below hE (Nat.le_refl _)) hw (by decide) (by decide)
        have hst := ST.out.2.2.2.1
        generalize fitsB ks id 3 0 9221120237041090560 ⟨#[]⟩ = bb at HF hst
        clear hq0 hq1 hq3 g0 g1 g2 g3
        have hm0 := fitN_le ks id 2
        generalize fitN ks id 2 = m0 at hst hm0 ⊢
        have HF := Lib.hid HF
        have HE := Lib.hid hE
        clear hE
        cases bb
        · have HST := Lib.hid (show fitN ks id 3 = m0 by simpa using hst)
          clear hst
          go_wp2_with (go_at_call 17; ((with_reducible refine HF.out.mono ?_); rintro e w2 ⟨rfl, hb2⟩))
          go_roundw
          case rel => exact ⟨3, by omega, by first | rfl | go_num, by rw [HST.out], below_add HE.out hb2 HE.out.size⟩
          case measure => simp [intOf]
        · have HST := Lib.hid (show fitN ks id 3 = m0 + 1 by simpa using hst)
          clear hst
          go_wp2_with (go_at_call 17; ((with_reducible refine HF.out.mono ?_); rintro e w2 ⟨rfl, hb2⟩))
          go_roundw
          case rel => exact ⟨3, by omega, by first | rfl | go_num, by rw [HST.out]; go_num, below_add HE.out hb2 HE.out.size⟩
          case measure => simp [intOf]
      by_cases hj3 : j = 3
      · subst hj3
        obtain ⟨g0, g1, g2, g3⟩ := hq3
        have c0 := (hE.cell (p := ⟨B, 12, none⟩) hBW).trans g0
        have c1 := (hE.cell (p := ⟨B, 13, none⟩) hBW).trans g1
        have c2 := (hE.cell (p := ⟨B, 14, none⟩) hBW).trans g2
        have c3 := (hE.cell (p := ⟨B, 15, none⟩) hBW).trans g3
        have HF := fits_any (.pointer (some s)) ks id 4 0 0 ⟨#[97]⟩ wr (HS.out.below hE (Nat.le_refl _)) hw (by decide) (by decide)
        have hst := ST.out.2.2.2.2
        generalize fitsB ks id 4 0 0 ⟨#[97]⟩ = bb at HF hst
        clear hq0 hq1 hq2 g0 g1 g2 g3
        have hm0 := fitN_le ks id 3
        generalize fitN ks id 3 = m0 at hst hm0 ⊢
        have HF := Lib.hid HF
        have HE := Lib.hid hE
        clear hE
        cases bb
        · have HST := Lib.hid (show fitN ks id 4 = m0 by simpa using hst)
          clear hst
          go_wp2_with (go_at_call 17; ((with_reducible refine HF.out.mono ?_); rintro e w2 ⟨rfl, hb2⟩))
          go_roundw
          case rel => exact ⟨4, by omega, by first | rfl | go_num, by rw [HST.out], below_add HE.out hb2 HE.out.size⟩
          case measure => simp [intOf]
        · have HST := Lib.hid (show fitN ks id 4 = m0 + 1 by simpa using hst)
          clear hst
          go_wp2_with (go_at_call 17; ((with_reducible refine HF.out.mono ?_); rintro e w2 ⟨rfl, hb2⟩))
          go_roundw
          case rel => exact ⟨4, by omega, by first | rfl | go_num, by rw [HST.out]; go_num, below_add HE.out hb2 HE.out.size⟩
          case measure => simp [intOf]
      exact absurd hlt (by omega)
    · obtain rfl : j = 4 := by omega
      have HF := find_any (.pointer (some s)) ks id wr (HS.out.below hE (Nat.le_refl _)) hw
      have HE := Lib.hid hE
      clear hE hq0 hq1 hq2 hq3
      cases hf : fnd ks id with
      | none =>
        have h4 := fitN_none hf
        generalize fitN ks id 4 = m4 at h4 ⊢
        subst h4
        rw [fndV_none hf] at HF
        have HF := Lib.hid HF
        clear hf
        go_wp2_with (first
          | (go_at_call 13; ((with_reducible refine HF.out.mono ?_); rintro e w2 ⟨rfl, hb2⟩; have hE2 := (below_add HE.out hb2 HE.out.size).alloc (below_add HE.out hb2 HE.out.size).size (.cells zc 32)))
          | (go_at_call 17; ((with_reducible refine (HZ.out _ (HS.out.below hE2 (Nat.le_refl _))).mono ?_); rintro e w3 ⟨rfl, hb3⟩; have hE3 := below_add hE2 hb3 hE2.size; clear hE2))
          | (go_at_call 17; ((with_reducible refine (HX.out _ (HS.out.below hE3 (Nat.le_refl _))).mono ?_); rintro e w4 ⟨rfl, hb4⟩; have hE4 := below_add hE3 hb4 hE3.size; clear hE3))
          | (go_at_call 7; refine (HKN.out _).mono ?_; rintro e w5 ⟨rfl, hb5⟩; have hE5 := below_add hE4 hb5 hE4.size))
        go_ret
        exact ⟨rfl, below_add HB0.out hE5 HB0.out.size⟩
      | some key =>
        have h4 := fitN_some hm.2 hf
        have hid := (fnd_some hf).2
        generalize fitN ks id 4 = m4 at h4 ⊢
        subst h4
        rw [fndV_some hf] at HF
        have HF := Lib.hid HF
        clear hf
        obtain ⟨k1, k2, k3, k4, k5, k6⟩ := key
        simp only at hid
        subst hid
        go_wp2_with (first
          | (go_at_call 13; ((with_reducible refine HF.out.mono ?_); rintro e w2 ⟨rfl, hb2⟩; have hE2 := (below_add HE.out hb2 HE.out.size).alloc (below_add HE.out hb2 HE.out.size).size (.cells (kca ⟨k1, k2, k3, k4, k5, k6⟩) 32)))
          | (go_at_call 17; ((with_reducible refine (HZ.out _ (HS.out.below hE2 (Nat.le_refl _))).mono ?_); rintro e w3 ⟨rfl, hb3⟩; have hE3 := below_add hE2 hb3 hE2.size; clear hE2))
          | (go_at_call 17; ((with_reducible refine (HX.out _ (HS.out.below hE3 (Nat.le_refl _))).mono ?_); rintro e w4 ⟨rfl, hb4⟩; have hE4 := below_add hE3 hb4 hE3.size; clear hE3))
          | (go_at_call 7; refine (HKN.out _).mono ?_; rintro e w5 ⟨rfl, hb5⟩; have hE5 := below_add hE4 hb5 hE4.size))
        go_ret
        exact ⟨rfl, below_add HB0.out hE5 HB0.out.size⟩

theorem fits_walk (v : Value) (ks : List Key) (id : Int) (w : World) (hv : Krow w v ks) (hW : ∀ k ∈ ks, KeyW k) (hw : (Lit.int .i64 id).wf = true) :
    Calls Try.prog 6 #[v, .int .i64 id] w fun e w' => e = .returned (.bool true) ∧ Below w.heap.size w w' := by
  by_cases hm : mayKs ks
  · exact fits_good v ks id w hv hW hm hw
  · exact fits_bad v ks id w hv hW hm
end Go.Proofs.Ytoienmcgcefdiaa
