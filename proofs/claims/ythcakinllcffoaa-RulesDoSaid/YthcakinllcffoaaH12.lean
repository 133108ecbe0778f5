
import Derived.Test.YthcakinllcffoaaH5
/- H12: known -/
namespace Go.Proofs.Ythcakinllcffoaa
open Go.RowKit
set_option linter.unusedVariables false

def kK : List Key := [⟨11, true, 2, false, false, 1⟩, ⟨12, true, 4, false, false, 1⟩, ⟨13, true, 2, false, false, 1⟩]
theorem kK_W : ∀ k ∈ kK, KeyW k := by
  intro k hk
  simp [kK] at hk
  rcases hk with rfl | rfl | rfl <;> exact ⟨by decide, by decide, by decide⟩
theorem kK_may : mayKs kK := by
  refine ⟨by decide, ?_, ?_⟩
  · intro k hk
    simp [kK] at hk
    rcases hk with rfl | rfl | rfl <;> decide
  · simp [Apart, kK]
theorem kK_rising : rising kK = kK := by
  refine (rising_unique kK_may.2 ?_ fun k => Iff.rfl).symm
  simp [kK]
def kA0 : ByteArray := ⟨#[97]⟩
def kC : Chg := ⟨12, false, 4, 0, 0, kA0⟩
def kX : List Att := [⟨11, 2, 7, 0, ⟨#[]⟩⟩]
theorem kK_sets : setsG kK [kC] = [1] := by decide
theorem kK_sets2 : setsG kK [setC 11 8] = [1] := by decide
theorem kK_gone : goneL kK [1] = [goneC 11, goneC 12, goneC 13] := by unfold goneL; rw [kK_rising]; decide
theorem kK_compl : cE kK [kC] = 0 ∧ cL kK [kC] = [goneC 11, kC, goneC 13] := by
  obtain ⟨h1, h2⟩ := cE_yes (one_nodup kK kC)
  refine ⟨h1, ?_⟩
  rw [h2]
  unfold compl
  rw [kK_sets, kK_gone]
  decide
theorem kK_step : sE kK 11 = 0 ∧ sL kK kX 11 8 = [setC 11 8, goneC 12, goneC 13] := by
  refine ⟨by decide, ?_⟩
  have e : stepP kK 11 8 = [setC 11 8, goneC 12, goneC 13] := by
    unfold stepP compl
    rw [kK_sets2, kK_gone]
    decide
  unfold sL stepQ
  rw [e, if_pos (by decide), if_neg (by decide)]
theorem kX_rise : Rise kX := by simp [Rise, kX]
theorem kX_num : stepV (numN kX 11) 5 = 8 := by decide
theorem kC_W : ∀ c ∈ [kC], ChgW c := by
  intro c hc
  simp only [List.mem_singleton] at hc
  subst hc
  exact ⟨by decide, by decide, by decide, by decide, by decide⟩
theorem flat_kK : (flat kK).toArray = #[.int .i64 11, .bool true, .int .u8 2, .bool false, .bool false, .int .i64 1, .int .i64 12, .bool true, .int .u8 4, .bool false, .bool false, .int .i64 1, .int .i64 13, .bool true, .int .u8 2, .bool false, .bool false, .int .i64 1] := rfl
theorem new_kK (w : World) :
    Calls Try.prog 9 #[.slice (some ⟨w.heap.size, 0, none⟩) 3 3] (w.alloc (.cells (flat kK).toArray 59)) fun e w' => ∃ s, e = .returned (.tuple #[.pointer (some s), .int .i64 0]) ∧ Sch w' (.pointer (some s)) kK ∧ Below w.heap.size w w' :=
  (new_yes (krow_built w _ kK (by decide)) kK_W kK_may).mono fun e w' ⟨s, h1, h2, h3⟩ => ⟨s, h1, h2, below_add (kbelow_one w _) h3 (by simp)⟩
/-- Three changes at a row's head. -/
theorem three_at {w : World} {v : Value} {x y z : Chg} (h : Crow w v [x, y, z]) : ∃ b o c, v = .slice (some ⟨b, o, none⟩) 3 c ∧ 3 ≤ c ∧ c ≤ maxLen ∧ CAt b o x w ∧ CAt b (o + 6) y w ∧ CAt b (o + 12) z w := by
  obtain ⟨a, c, rfl⟩ := h.shape
  obtain ⟨b, o, rfl, -, h3, hm, -, hat⟩ := Crow.opn h (by simp)
  have h0 := hat 0 (by simp)
  have h1 := hat 1 (by simp)
  have h2 := hat 2 (by simp)
  simp only [Nat.zero_mul, Nat.add_zero] at h0
  exact ⟨b, o, c, rfl, by simpa using h3, hm, h0, h1, h2⟩

/-- The text's variable. -/
def AtV (b : Nat) (w : World) : Prop :=
  w.cell? ⟨b, 0, none⟩ = some (.int .u8 4) ∧ w.cell? ⟨b, 1, none⟩ = some (.int .i64 0) ∧ w.cell? ⟨b, 2, none⟩ = some (.int .u64 0) ∧ w.cell? ⟨b, 3, none⟩ = some (.string ⟨#[97]⟩)
theorem AtV.below {b : Nat} {w w' : World} (h : AtV b w) (hb : Below w.heap.size w w') : AtV b w' := by
  obtain ⟨h0, h1, h2, h3⟩ := h
  have hl : b < w.heap.size := World.block_lt_of_cell? w _ h0
  exact ⟨(hb.cell (p := ⟨b, _, none⟩) hl).trans h0, (hb.cell (p := ⟨b, _, none⟩) hl).trans h1, (hb.cell (p := ⟨b, _, none⟩) hl).trans h2, (hb.cell (p := ⟨b, _, none⟩) hl).trans h3⟩
theorem atv_new (w : World) (o : Obj) {w' : World} (hb : Below (w.heap.size + 1 + 1) ((w.alloc (.cells #[.int .u8 4, .int .i64 0, .int .u64 0, .string ⟨#[97]⟩] 47)).alloc o) w') : AtV w.heap.size w' := by
  have h : AtV w.heap.size (w.alloc (.cells #[.int .u8 4, .int .i64 0, .int .u64 0, .string ⟨#[97]⟩] 47)) := by
    refine ⟨?_, ?_, ?_, ?_⟩ <;> (rw [cell_of_row _ w.heap.size _ _ _ (0, 0) (heap_alloc_new w _)]; rfl)
  exact (h.below (kbelow_one _ o)).below (by simpa using hb)

set_option maxRecDepth 100000 in
set_option maxHeartbeats 2000000 in
theorem known14_any (w : World) : Calls Try.prog 8 #[] w fun e w' => e = .returned (.bool true) ∧ Below w.heap.size w w' := by
  have HN := new_kK w
  rw [flat_kK] at HN
  have HN := Lib.hid HN
  have HC := Lib.hid (fun (s : Addr) W (h : Sch W (.pointer (some s)) kK) => by
    have := complete_any (.pointer (some s)) _ kK [kC] _ (h.below (kbelow_one W (.cells (cca kC) 49)) (Nat.le_refl _)) (crow_one W kC 49) kC_W (by simp)
    rw [kK_compl.1, kK_compl.2] at this
    exact this)
  have HS := Lib.hid (fun (s : Addr) W (h : Sch W (.pointer (some s)) kK) => step_any (.pointer (some s)) _ kK kX 11 5 _ (h.below (kbelow_one W (.cells (aca ⟨11, 2, 7, 0, ⟨#[]⟩⟩) 64)) (Nat.le_refl _)) (show Arow _ (.slice (some ⟨W.heap.size, 0, none⟩) 1 1) kX from row_new0 W ⟨11, 2, 7, 0, ⟨#[]⟩⟩ 64) (by simp [kX]) (by decide))
  go_enter Try.func8, Try.ntmps8
  go_wp2_with fail
  go_at_call 9
  refine HN.out.mono ?_
  rintro e w1 ⟨s, rfl, hs1, hb1⟩
  have HS1 := Lib.hid hs1
  have HB1 := Lib.hid hb1
  clear hs1 hb1
  have hb2 := kbelow_one w1 (.cells #[.int .u8 4, .int .i64 0, .int .u64 0, .string ⟨#[97]⟩] 47)
  have hc := HC.out s _ (HS1.out.below hb2 (Nat.le_refl _))
  simp only [World.size_alloc] at hc
  have HC2 := Lib.hid hc
  clear hc hb2
  go_wp2_with fail
  go_at_call 13
  refine HC2.out.mono ?_
  rintro e w3 ⟨u3, rfl, ho3, hb3⟩
  have hb02 : Below w1.heap.size w1 ((w1.alloc (.cells #[.int .u8 4, .int .i64 0, .int .u64 0, .string ⟨#[97]⟩] 47)).alloc (.cells (cca kC) 49)) := kbelow_two w1 _ _
  have hb03 : Below w1.heap.size w1 w3 := hb02.trans (hb3.mono (by omega))
  have HS3 := Lib.hid (HS1.out.below hb03 (Nat.le_refl _))
  have HB3 := Lib.hid (below_add HB1.out hb03 HB1.out.size)
  have HAT := Lib.hid (show AtV w1.heap.size w3 from atv_new w1 _ hb3)
  have HR3 := Lib.hid (own6_row ho3)
  have HST := Lib.hid (HS.out s _ HS3.out)
  clear hb02 hb03 hb3 ho3
  go_wp2_with fail
  go_at_call 16
  refine HST.out.mono ?_
  rintro e w4 ⟨n, u4, hn, -, -, rfl, ho4, hb4⟩
  rw [hn kX_rise, kX_num, kK_step.2] at ho4
  have hb34 := (kbelow_one w3 (.cells (aca ⟨11, 2, 7, 0, ⟨#[]⟩⟩) 64)).trans (hb4.mono (by simp))
  obtain ⟨b, o, c, rfl, h3c, hcm, p1, p2, p3⟩ := three_at (HR3.out.below hb34 (Nat.le_refl _))
  obtain ⟨b2, o2, c2, rfl, h3c2, hcm2, q1, q2, q3⟩ := three_at (own6_row ho4)
  have HB4 := Lib.hid (below_add HB3.out hb34 HB3.out.size)
  obtain ⟨a0, a1, a2, a3⟩ := HAT.out.below hb34
  rw [kK_step.1]
  obtain ⟨-, g1, -, -, -, -⟩ := p1
  obtain ⟨-, -, g2, g3, g4, g5⟩ := p2
  obtain ⟨-, g6, -, -, -, -⟩ := p3
  obtain ⟨-, -, -, g7, -, -⟩ := q1
  have hve := fun w => val_eql 4 0 0 4 0 0 ⟨#[97]⟩ ⟨#[97]⟩ w
  simp only [kC, kA0] at g2 g3 g4 g5
  simp only [BEq.rfl, Bool.and_self] at hve
  clear ho4 hb4 hb34 q2 q3 hn HS HC HN
  go_wp2_with fail
  go_quiet (fail)
  go_wp2
  go_ret
  exact ⟨rfl, blw_drewN HB4.out _⟩
end Go.Proofs.Ythcakinllcffoaa
