
import Derived.Test.YteilhjkkgdgbkaaNH
import Derived.Carry
/- NI: ArenaNone's walk -/
namespace Go.Proofs.Yteilhjkkgdgbkaa
open Go.RowKit Go.Shelf
set_option linter.unusedVariables false
attribute [local go_sem] Oper.semAt_some

@[reducible] def allV (b : Nat) : Value := .func (.func 31) #[] #[.pointer (some ⟨b, 0, none⟩)]
/-- The law's own blocks: the result, the zero arena, the two closures' boxes, the two closures. -/
structure NoneR (w W : World) (b : Nat) : Prop where
  bel : Below w.heap.size w W
  lo : w.heap.size ≤ b
  hi : b + 5 ≤ W.heap.size
  res : W.heap[b]? = some (.cells #[.bool false] 4 (0, 0))
  zero : W.heap[b + 1]? = some (.cells #[.pointer none] 49 (0, 0))
  b0 : W.heap[b + 1 + 1]? = some (.cells #[.pointer none] 23 (0, 0))
  b1 : W.heap[b + 1 + 1 + 1]? = some (.cells #[.pointer (some ⟨b + 1, 0, none⟩)] 23 (0, 0))
  two : W.heap[b + 1 + 1 + 1 + 1]? = some (.cells #[allV (b + 1 + 1), allV (b + 1 + 1 + 1)] 44 (0, 0))
theorem NoneR.below {w W W' : World} {b : Nat} (h : NoneR w W b) (hb : Below W.heap.size W W') : NoneR w W' b := by
  have hh := h.hi
  exact ⟨below_add h.bel hb h.bel.size, h.lo, Nat.le_trans h.hi hb.size, (hb.block _ (by omega)).trans h.res, (hb.block _ (by omega)).trans h.zero, (hb.block _ (by omega)).trans h.b0, (hb.block _ (by omega)).trans h.b1, (hb.block _ (by omega)).trans h.two⟩
theorem NoneR.cells {w W : World} {b : Nat} (h : NoneR w W b) : W.cell? ⟨b, 0, none⟩ = some (.bool false) ∧ W.frozen? ⟨b, 0, none⟩ = false ∧ W.cell? ⟨b + 1 + 1, 0, none⟩ = some (.pointer none) ∧ W.cell? ⟨b + 1 + 1 + 1, 0, none⟩ = some (.pointer (some ⟨b + 1, 0, none⟩)) ∧ W.cell? ⟨b + 1 + 1 + 1 + 1, 0, none⟩ = some (allV (b + 1 + 1)) ∧ W.cell? ⟨b + 1 + 1 + 1 + 1, 1, none⟩ = some (allV (b + 1 + 1 + 1)) := by
  refine ⟨?_, ?_, ?_, ?_, ?_, ?_⟩
  · rw [cell_of_row W b 0 _ _ _ h.res]; rfl
  · simp [World.frozen?, h.res]
  · rw [cell_of_row W _ 0 _ _ _ h.b0]; rfl
  · rw [cell_of_row W _ 0 _ _ _ h.b1]; rfl
  · rw [cell_of_row W _ 0 _ _ _ h.two]; rfl
  · rw [cell_of_row W _ 1 _ _ _ h.two]; rfl
theorem NoneR.no0 {w W : World} {b : Nat} (h : NoneR w W b) : ZT W none := .inl rfl
theorem NoneR.no1 {w W : World} {b : Nat} (h : NoneR w W b) : ZT W (some ⟨b + 1, 0, none⟩) := .inr ⟨_, rfl, by rw [cell_of_row W (b + 1) 0 _ _ _ h.zero]; rfl⟩
@[reducible] def noneW (w : World) : World := ((((w.alloc (.cells #[.bool false] 4)).alloc (.cells #[.pointer none] 49)).alloc (.cells #[.pointer none] 23)).alloc (.cells #[.pointer (some ⟨w.heap.size + 1, 0, none⟩)] 23)).alloc (.cells #[allV (w.heap.size + 1 + 1), allV (w.heap.size + 1 + 1 + 1)] 44)
theorem al_new {W : World} {o : Obj} {b : Nat} (e : b = W.heap.size) : (W.alloc o).heap[b]? = some o := by rw [e]; exact heap_alloc_new W o
theorem al_old {W : World} {o : Obj} {b : Nat} {r : Option Obj} (hb : b < W.heap.size) (e : W.heap[b]? = r) : (W.alloc o).heap[b]? = r := by rw [Below.heap_alloc W o b hb, e]
theorem NoneR.new (w : World) : NoneR w (noneW w) w.heap.size := by
  refine ⟨(((((Below.refl _ w).alloc (Nat.le_refl _) _).alloc (by simp only [World.size_alloc]; omega) _).alloc (by simp only [World.size_alloc]; omega) _).alloc (by simp only [World.size_alloc]; omega) _).alloc (by simp only [World.size_alloc]; omega) _, Nat.le_refl _, by simp only [World.size_alloc]; omega, ?_, ?_, ?_, ?_, ?_⟩
  · exact al_old (by simp only [World.size_alloc]; omega) (al_old (by simp only [World.size_alloc]; omega) (al_old (by simp only [World.size_alloc]; omega) (al_old (by simp only [World.size_alloc]; omega) (al_new rfl))))
  · exact al_old (by simp only [World.size_alloc]; omega) (al_old (by simp only [World.size_alloc]; omega) (al_old (by simp only [World.size_alloc]; omega) (al_new (by simp only [World.size_alloc]))))
  · exact al_old (by simp only [World.size_alloc]; omega) (al_old (by simp only [World.size_alloc]; omega) (al_new (by simp only [World.size_alloc])))
  · exact al_old (by simp only [World.size_alloc]; omega) (al_new (by simp only [World.size_alloc]))
  · exact al_new (by simp only [World.size_alloc])

set_option maxRecDepth 100000 in
set_option maxHeartbeats 400000 in
theorem none_walk (i x : Int) (w : World) :
    Calls Try.prog 4 #[.int .i64 i, .int .i64 x] w fun e w' => e = .returned (.bool true) ∧ Below w.heap.size w w' := by
  have HR0 := NoneR.new w
  refine (callsIn_wide (n := 9)).1 ?_
  refine callsIn_of_wp_marks Try.func4 rfl trivial ?_ rfl
  simp only [Try.ntmps4, List.size_toArray, List.length_cons, List.length_nil, Nat.reduceAdd, Nat.reduceSub, Array.replicate_succ, Array.replicate_zero, List.push_toArray, List.append_toArray, List.nil_append, List.cons_append]
  have HA := Lib.hid (fun w => at_nil i w)
  have HL := Lib.hid (fun p w => all_any p w)
  gi_wp2_with (first
    | (refine ⟨trivial, ?_⟩; gi_at_call 15; refine (callsIn_wide.2 (HA.out _)).mono ?_; rintro e wx ⟨rfl, hw⟩; have hw := hw.symm; subst hw)
    | (refine ⟨trivial, ?_⟩; gi_at_call 19; refine (callsIn_wide.2 (HL.out _ _)).mono ?_; rintro e wz ⟨rfl, hw⟩; subst hw))
  change NoneR w (noneW w) w.heap.size at HR0
  generalize hW0 : ((((w.alloc (.cells #[.bool false] 4)).alloc (.cells #[.pointer none] 49)).alloc (.cells #[.pointer none] 23)).alloc (.cells #[.pointer (some ⟨w.heap.size + 1, 0, none⟩)] 23)).alloc (.cells #[.func (.func 31) #[] #[.pointer (some ⟨w.heap.size + 1 + 1, 0, none⟩)], .func (.func 31) #[] #[.pointer (some ⟨w.heap.size + 1 + 1 + 1, 0, none⟩)]] 44) = W0 at *
  have R0 := Lib.hid (show NoneR w W0 w.heap.size from hW0 ▸ HR0)
  clear HR0 hW0 HA HL
  refine wpIn_loop_rounds 3 ?_
  rw [roundsIn_succ]
  have hz := R0.out.no0
  obtain ⟨c0, c1, c2, c3, c4, c5⟩ := R0.out.cells
  have hq := all_there (w.heap.size + 1 + 1) W0
  have i0 : (0 : Int) ≤ 0 := by decide
  have i1 : (0 : Int) < 2 := by decide
  gi_wp2_with fail
  refine wpIn_rangeFunc_empty rfl (by decide) (gf := 31) (lb := #[.pointer (some ⟨w.heap.size + 1 + 1, 0, none⟩)]) rfl trivial (enters_of Try.func31 (by kernel_rfl) rfl) (fun l W2 hb2 => ?_) ?_
  · exact all1_no _ _ W2 (hz.below hb2) ((hb2.cell (World.block_lt_of_cell? _ _ c2)).trans c2)
  rintro D0 W1 hD0 hb1 hK0
  have R1 := Lib.hid (R0.out.below hb1)
  have hsz0 := R0.out.hi
  clear hz c0 c1 c2 c3 c4 c5 hq i0 i1 hb1
  gi_wp2_with fail
  rw [roundsIn_succ]
  have hz := R1.out.no1
  obtain ⟨c0, c1, c2, c3, c4, c5⟩ := R1.out.cells
  have hq := all_there (w.heap.size + 1 + 1 + 1) W1
  have i0 : (0 : Int) ≤ 1 := by decide
  have i1 : (1 : Int) < 2 := by decide
  gi_wp2_with fail
  refine wpIn_rangeFunc_empty rfl (by decide) (gf := 31) (lb := #[.pointer (some ⟨w.heap.size + 1 + 1 + 1, 0, none⟩)]) rfl trivial (enters_of Try.func31 (by kernel_rfl) rfl) (fun l W2 hb2 => ?_) ?_
  · exact all1_no _ _ W2 (hz.below hb2) ((hb2.cell (World.block_lt_of_cell? _ _ c3)).trans c3)
  rintro D1 W2 hD1 hb2 hK1
  have R2 := Lib.hid (R1.out.below hb2)
  have hlt0 : D0 < W1.heap.size := lt_of_heap hK0
  have hK0b := (hb2.block D0 hlt0).trans hK0
  clear hz c0 c1 c2 c3 c4 c5 hq i0 i1 hb2 hK0
  gi_wp2_with fail
  rw [roundsIn_succ]
  have H1 := Lib.hid (free_nil i W2)
  have H2 := Lib.hid (put_nil i x W2)
  have H3 := Lib.hid (take_nil x W2)
  have H4 := Lib.hid (len_no W2 R2.out.no0)
  have H5 := Lib.hid (cap_no W2 R2.out.no0)
  have H6 := Lib.hid (len_no W2 R2.out.no1)
  have H7 := Lib.hid (cap_no W2 R2.out.no1)
  have H8 := Lib.hid (free_zero i W2 (by obtain ⟨b, e, hc⟩ := R2.out.no1.resolve_left (by simp); cases e; exact hc))
  have H9 := Lib.hid (take_zero x W2 R2.out.zero)
  gi_wp2_with (first
    | (refine ⟨trivial, ?_⟩; gi_at_call 12; (with_reducible refine (callsIn_wide.2 H1.out).mono ?_); rintro e wx ⟨rfl, hw⟩; have hw := hw.symm; subst hw)
    | (refine ⟨trivial, ?_⟩; gi_at_call 14; (with_reducible refine (callsIn_wide.2 H2.out).mono ?_); rintro e wx ⟨rfl, hw⟩; have hw := hw.symm; subst hw)
    | (refine ⟨trivial, ?_⟩; gi_at_call 10; (with_reducible refine (callsIn_wide.2 H3.out).mono ?_); rintro e wx ⟨rfl, hw⟩; have hw := hw.symm; subst hw)
    | (refine ⟨trivial, ?_⟩; gi_at_call 16; (with_reducible refine (callsIn_wide.2 H4.out).mono ?_); rintro e wx ⟨rfl, hw⟩; have hw := hw.symm; subst hw)
    | (refine ⟨trivial, ?_⟩; gi_at_call 18; (with_reducible refine (callsIn_wide.2 H5.out).mono ?_); rintro e wx ⟨rfl, hw⟩; have hw := hw.symm; subst hw)
    | (refine ⟨trivial, ?_⟩; gi_at_call 16; (with_reducible refine (callsIn_wide.2 H6.out).mono ?_); rintro e wx ⟨rfl, hw⟩; have hw := hw.symm; subst hw)
    | (refine ⟨trivial, ?_⟩; gi_at_call 18; (with_reducible refine (callsIn_wide.2 H7.out).mono ?_); rintro e wx ⟨rfl, hw⟩; have hw := hw.symm; subst hw)
    | (refine ⟨trivial, ?_⟩; gi_at_call 12; (with_reducible refine (callsIn_wide.2 H8.out).mono ?_); rintro e wx ⟨rfl, hw⟩; have hw := hw.symm; subst hw)
    | (refine ⟨trivial, ?_⟩; gi_at_call 10; (with_reducible refine (callsIn_wide.2 H9.out).mono ?_); rintro e W3 ⟨rfl, ⟨S3, hA3⟩, hO3⟩; refine Hid.out ?_))
  have hB3 : Below w.heap.size w W3 := R2.out.bel.trans (hO3.below (fun k hk => by have e : k = w.heap.size + 1 := hk; omega) R2.out.bel.size)
  have hres3 := (hO3.block _ (lt_of_heap R2.out.res) (fun e => by have e' : w.heap.size = w.heap.size + 1 := e; omega)).trans R2.out.res
  have hne0 : D0 ≠ w.heap.size + 1 := by omega
  have hne1 : D1 ≠ w.heap.size + 1 := by omega
  have q30 := (hO3.block D0 (lt_of_heap hK0b) hne0).trans hK0b
  have q31 := (hO3.block D1 (lt_of_heap hK1) hne1).trans hK1
  have hl := lens_6 hA3 (by omega)
  rw [show (newA.take x).len = 1 from rfl] at hl
  have HL := Lib.hid hl
  have HK := Lib.hid (fun q => known8_any (W3.drewN q))
  have H3 := Lib.hid (show Below w.heap.size w W3 ∧ W3.heap[w.heap.size]? = some (.cells #[.bool false] 4 (0, 0)) ∧ W3.heap[D0]? = some (.deferred (some [])) ∧ W3.heap[D1]? = some (.deferred (some [])) ∧ D0 < D1 ∧ w.heap.size < D0 from ⟨hB3, hres3, q30, q31, by have := hlt0; omega, by omega⟩)
  have HC := Lib.hid (fun (q : Nat) (w9 : World) (hb : Below (W3.drewN q).heap.size (W3.drewN q) w9) => (show w9.cell? ⟨w.heap.size, 0, none⟩ = some (.bool false) ∧ w9.frozen? ⟨w.heap.size, 0, none⟩ = false from by
    have h : w9.heap[w.heap.size]? = some (.cells #[.bool false] 4 (0, 0)) := (hb.block _ (lt_of_heap hres3)).trans hres3
    exact ⟨by rw [cell_of_row w9 _ 0 _ _ _ h]; rfl, by simp [World.frozen?, h]⟩))
  clear hA3 hO3 hB3 hres3 hne0 hne1 q30 q31 hl H1 H2 H4 H5 H6 H7 H8 H9 R0 R1 R2 hK1 hK0b hlt0 hsz0 hD0 hD1
  refine Lib.hid ?_
  gi_wp2_with (first
    | (refine ⟨trivial, ?_⟩; gi_at_call 16; (with_reducible refine (callsIn_wide.2 HL.out).mono ?_); rintro e wx ⟨rfl, q, rfl⟩)
    | (refine ⟨trivial, ?_⟩; gi_at_call 8; (with_reducible refine (callsIn_wide.2 (HK.out q)).mono ?_); rintro e w9 ⟨rfl, hb9⟩; obtain ⟨k1, k2⟩ := HC.out q w9 hb9))
  obtain ⟨hB3, hres3, q30, q31, hDD, hwD⟩ := H3.out
  have hB9 : Below w.heap.size w w9 := below_add (blw_drewN hB3 q) hb9 (blw_drewN hB3 q).size
  have q0 := (hb9.block D0 (lt_of_heap q30)).trans q30
  have q1 := (hb9.block D1 (lt_of_heap q31)).trans q31
  have hszw : w.heap.size ≤ D1 := by omega
  have k3 := World.cell?_setCell_same' w9 ⟨w.heap.size, 0, none⟩ (.bool true) (by rw [k1]; rfl)
  have hB4 := hB9.setCell (p := ⟨w.heap.size, 0, none⟩) (Nat.le_refl _) (.bool true)
  have q2 := (KeepsOthers.setCell w9 ⟨w.heap.size, 0, none⟩ (.bool true)).same D0 _ q0 rfl
  have q3 := (KeepsOthers.setCell w9 ⟨w.heap.size, 0, none⟩ (.bool true)).same D1 _ q1 rfl
  generalize w9.setCell ⟨w.heap.size, 0, none⟩ (.bool true) = W4 at *
  have hG5 := grownBy_putObj' W4 D1 (.deferred none)
  have q5 := ((Off.of_grown (S := fun k => k = D1) hG5 (fun g hg => by cases hg; rfl)).block D0 (lt_of_heap q2) (fun e => by have e' : D0 = D1 := e; omega)).trans q2
  have k5 := cell_kept k3 hG5 (fun r e => by cases e; exact ⟨_, q3, rfl⟩)
  have hB5 := hB4.trans (belowK_b (w := w) (Nat.le_refl _) W4 D1 _ (.deferred none) hszw q3 rfl rfl)
  have k6 := cell_kept k5 (grownBy_putObj' (W4.putObj D1 (.deferred none)) D0 (.deferred none)) (fun r e => by cases e; exact ⟨_, q5, rfl⟩)
  have hB6 := hB5.trans (belowK_b (w := w) (Nat.le_refl _) (W4.putObj D1 (.deferred none)) D0 _ (.deferred none) (by omega) q5 rfl rfl)
  refine ⟨by simp, .inl ⟨_, _, rfl, run_takeDeferred q3, by simp, .inl ⟨_, _, rfl, run_takeDeferred q5, ?_⟩⟩⟩
  refine ⟨.bool true, ?_, rfl, hB6⟩
  simp [results, Try.f4, go_sem, k6]
end Go.Proofs.Yteilhjkkgdgbkaa
