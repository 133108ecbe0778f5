
import Derived.Test.YtckdmhklnnmjpaaOK
/- OL: known -/
namespace Go.Proofs.Ytckdmhklnnmjpaa
open Go.RowKit
set_option linter.unusedVariables false

/-- The rest of a list of operations asks of a world only this. -/
theorem with_worldL {P : Program} {ops : Array Oper} {rest : List Oper} {Q : Exit → Act → World → Prop} {a : Act} {W0 : World} (F : World → Prop) (h0 : F W0) (h : ∀ W, F W → wpList P ops Q rest a W) : wpList P ops Q rest a W0 := h _ h0

def kL : List Int := [97, 10, 98]
theorem kL_chunky : Chunky kL := ⟨by decide, by decide⟩
theorem kL_of : ofE kL = 0 := by decide
theorem k_nl : nl kL = 1 := by decide
theorem k_len : kL.length = 3 := rfl
theorem k_a1 : nl (kL.take (1 : Int).toNat) = 0 := by decide
theorem k_a2 : nl (kL.take (2 : Int).toNat) = 1 := by decide
theorem k_at0 : nlAt kL 0 = some 1 := by decide
theorem k_at1 : nlAt kL 1 = none := by decide

/-- A chunk's variable, and both parts' variables. -/
structure K1 (w : World) (g : Nat) (xs : List Int) (W : World) : Prop where
  c : RowAt g 27 xs W
  bel : Below w.heap.size w W
structure K3 (w : World) (g : Nat) (xs : List Int) (ga : Nat) (ya : List Int) (gb : Nat) (yb : List Int) (W : World) : Prop where
  c : RowAt g 27 xs W
  a : RowAt ga 27 ya W
  b : RowAt gb 27 yb W
  bel : Below w.heap.size w W
theorem K1.below {w W W' : World} {g : Nat} {xs : List Int} (h : K1 w g xs W) (hb : Below W.heap.size W W') : K1 w g xs W' := ⟨h.c.below hb, below_add h.bel hb h.bel.size⟩
theorem K3.below {w W W' : World} {g ga gb : Nat} {xs ya yb : List Int} (h : K3 w g xs ga ya gb yb W) (hb : Below W.heap.size W W') : K3 w g xs ga ya gb yb W' := ⟨h.c.below hb, h.a.below hb, h.b.below hb, below_add h.bel hb h.bel.size⟩
/-- A variable is made and set. -/
theorem var_new {w W : World} (xs : List Int) (hb : Below w.heap.size w W) : K1 w W.heap.size xs ((W.alloc (.cells (row zero32) 27)).setRow W.heap.size (row xs)) :=
  ⟨(rowAt_new W _ _).setRow, below_setRow (hb.alloc hb.size _) hb.size _⟩
theorem var_two {w W : World} {g : Nat} {xs : List Int} (h : K1 w g xs W) (ya yb : List Int) :
    K3 w g xs W.heap.size ya (W.heap.size + 1) yb ((((W.alloc (.cells (row zero32) 27)).alloc (.cells (row zero32) 27)).setRow W.heap.size (row ya)).setRow (W.heap.size + 1) (row yb)) := by
  have hs := h.bel.size
  have hlt := h.c.lt
  refine ⟨(((h.c.alloc _).alloc _).setRow_other (by omega) _).setRow_other (by omega) _, ?_, ?_, below_setRow (below_setRow ((h.bel.alloc hs _).alloc (by simp; omega) _) hs _) (by omega) _⟩
  · exact (((rowAt_new W _ _).alloc _).setRow).setRow_other (by omega) _
  · have := rowAt_new (W.alloc (.cells (row zero32) 27)) 27 zero32
    have h2 : RowAt (W.heap.size + 1) 27 zero32 ((W.alloc (.cells (row zero32) 27)).alloc (.cells (row zero32) 27)) := by simpa using this
    exact (h2.setRow_other (by omega) _).setRow
theorem var_first {w W : World} {g : Nat} {xs : List Int} (h : K1 w g xs W) (ya : List Int) :
    RowAt W.heap.size 27 zero32 ((W.alloc (.cells (row zero32) 27)).alloc (.cells (row zero32) 27)) ∧
    RowAt (W.heap.size + 1) 27 zero32 (((W.alloc (.cells (row zero32) 27)).alloc (.cells (row zero32) 27)).setRow W.heap.size (row ya)) := by
  refine ⟨(rowAt_new W _ _).alloc _, ?_⟩
  have := rowAt_new (W.alloc (.cells (row zero32) 27)) 27 zero32
  have h2 : RowAt (W.heap.size + 1) 27 zero32 ((W.alloc (.cells (row zero32) 27)).alloc (.cells (row zero32) 27)) := by simpa using this
  exact h2.setRow_other (by omega) _

set_option maxRecDepth 100000 in
set_option maxHeartbeats 1000000 in
theorem known9_any (w : World) : Calls Try.prog 9 #[] w fun e w' => e = .returned (.bool true) ∧ Below w.heap.size w w' := by
  have HO := Lib.hid (fun v w hv => of_any v kL w hv)
  rw [ofV_ok kL_of] at HO
  have HNA0 := Lib.hid (fun w => newlineAt_any kL kL_chunky 0 w)
  have HNA1 := Lib.hid (fun w => newlineAt_any kL kL_chunky 1 w)
  rw [k_at0, nlVal_some] at HNA0
  rw [k_at1, nlVal_none] at HNA1
  have HSP := Lib.hid (fun w => split_in kL kL_chunky 1 (by decide) w)
  rw [show ((1 : Nat) : Int) = 1 from rfl] at HSP
  have HLN := Lib.hid (fun w => len_any kL kL_chunky w)
  have HNL := Lib.hid (fun w => newlines_any kL kL_chunky w)
  have HA1 := Lib.hid (fun w => ahead_any kL kL_chunky 1 w)
  have HA2 := Lib.hid (fun w => ahead_any kL kL_chunky 2 w)
  rw [k_a1] at HA1
  rw [k_a2] at HA2
  rw [k_nl] at HNL
  rw [k_len] at HLN
  have HRA := Lib.hid (fun w => runes_any (kL.take 1) (kL_chunky.take 1) w)
  have HRB := Lib.hid (fun w => runes_any (kL.drop 1) (kL_chunky.drop 1) w)
  have HSA := Lib.hid (fun v1 v2 w h1 h2 => same9_any v1 v2 (kL.take 1) [97] w h1 h2)
  have HSB := Lib.hid (fun v1 v2 w h1 h2 => same9_any v1 v2 (kL.drop 1) [10, 98] w h1 h2)
  rw [show sameB9 (kL.take 1) [97] = true by decide] at HSA
  rw [show sameB9 (kL.drop 1) [10, 98] = true by decide] at HSB
  have LX := Lib.hid (slots_len kL_chunky.1)
  have LA := Lib.hid (slots_len (kL_chunky.take 1).1)
  have LB := Lib.hid (slots_len (kL_chunky.drop 1).1)
  have HI0 := Lib.hid (ints_built .i32 w 21 kL (by decide))
  have HB0 := Lib.hid (show Below w.heap.size w (w.alloc (.cells (row kL) 21)) from (Below.refl _ _).alloc (Nat.le_refl _) _)
  unfold cv at *
  obtain ⟨xs, hxs⟩ : ∃ xs, slots kL = xs := ⟨_, rfl⟩
  obtain ⟨ya, hya⟩ : ∃ ya, slots (kL.take 1) = ya := ⟨_, rfl⟩
  obtain ⟨yb, hyb⟩ : ∃ yb, slots (kL.drop 1) = yb := ⟨_, rfl⟩
  rw [hxs] at HO HNA0 HNA1 HSP HLN HNL HA1 HA2 LX
  rw [hya] at HSP HRA LA
  rw [hyb] at HSP HRB LB
  clear hxs hya hyb
  go_enter Try.func9, Try.ntmps9
  go_wp2_with (first
    | (go_at_call 10; refine (HO.out _ _ HI0.out).mono ?_; rintro e w2 ⟨rfl, b2⟩; have B2 := Lib.hid (below_add HB0.out b2 (by simp)); clear b2 HB0 HI0)
    | (refine wpList_store_row rfl 27 (.tmp 1) (.tmp 13) rfl w2.heap.size (row xs) rfl rfl _ _ (rowAt_new w2 _ zero32) (info_chunk32 _ LX.out) (by rw [row_size, row_size, LX.out]; rfl) (row_one _) ?_; refine with_worldL (K1 w w2.heap.size xs) (var_new xs B2.out) fun W3 hW => ?_; have K := Lib.hid hW; clear hW B2; refine Hid.out ?_))
  refine Lib.hid ?_
  go_wp2_with (first
    | (refine wpList_load_roww 27 (.tmp 1) rfl _ rfl (by rfl) _ _ _ _ K.out.c Try.underlying27 rfl (info_chunk32 _ LX.out) ?_)
    | (go_at_call 19; with_reducible (refine (HNA0.out _).mono ?_); rintro e w4 ⟨rfl, b4⟩; have K' := Lib.hid (K.out.below b4); clear b4 K; have K := K'; clear K')
    | (go_at_call 19; with_reducible (refine (HNA1.out _).mono ?_); rintro e w5 ⟨rfl, b5⟩; have K' := Lib.hid (K.out.below b5); clear b5 K; have K := K'; clear K')
    | (go_at_call 14; with_reducible (refine (HSP.out _).mono ?_); rintro e w6 ⟨rfl, b6⟩; have K' := Lib.hid (K.out.below b6); clear b6 K; have K := K'; clear K'; have KF := Lib.hid (var_first K.out ya))
    | (refine wpList_store_row rfl 27 (.tmp 7) (.tmp 28) rfl w6.heap.size (row ya) rfl rfl _ _ KF.out.1 (info_chunk32 _ LA.out) (by rw [row_size, row_size, LA.out]; rfl) (row_one _) ?_)
    | (refine wpList_store_row rfl 27 (.tmp 8) (.tmp 29) rfl (w6.heap.size + 1) (row yb) rfl rfl _ _ KF.out.2 (info_chunk32 _ LB.out) (by rw [row_size, row_size, LB.out]; rfl) (row_one _) ?_; refine with_worldL (K3 w w2.heap.size xs w6.heap.size ya (w6.heap.size + 1) yb) (var_two K.out ya yb) fun W7 hW => ?_; have K' := Lib.hid hW; clear hW K KF; have K := K'; clear K'; refine Hid.out ?_))
  refine Lib.hid ?_
  go_wp2_with (first
    | (refine wpList_load_roww 27 (.tmp 1) rfl _ rfl (by rfl) _ _ _ _ K.out.c Try.underlying27 rfl (info_chunk32 _ LX.out) ?_)
    | (refine wpList_load_roww 27 (.tmp 7) rfl _ rfl (by rfl) _ _ _ _ K.out.a Try.underlying27 rfl (info_chunk32 _ LA.out) ?_)
    | (refine wpList_load_roww 27 (.tmp 8) rfl _ rfl (by rfl) _ _ _ _ K.out.b Try.underlying27 rfl (info_chunk32 _ LB.out) ?_)
    | (go_at_call 18; with_reducible (refine (HLN.out _).mono ?_); rintro e w8 ⟨rfl, b8⟩; have K' := Lib.hid (K.out.below b8); clear b8 K; have K := K'; clear K')
    | (go_at_call 16; with_reducible (refine (HNL.out _).mono ?_); rintro e w9 ⟨rfl, b9⟩; have K' := Lib.hid (K.out.below b9); clear b9 K; have K := K'; clear K')
    | (go_at_call 17; with_reducible (refine (HA1.out _).mono ?_); rintro e w10 ⟨rfl, b10⟩; have K' := Lib.hid (K.out.below b10); clear b10 K; have K := K'; clear K')
    | (go_at_call 17; with_reducible (refine (HA2.out _).mono ?_); rintro e w11 ⟨rfl, b11⟩; have K' := Lib.hid (K.out.below b11); clear b11 K; have K := K'; clear K')
    | (go_at_call 21; with_reducible (refine (HRA.out _).mono ?_); rintro e w12 ⟨u1, rfl, o12, b12⟩; have K' := Lib.hid (K.out.below b12); have OA := Lib.hid (ints_of_owns o12); clear o12 b12 K; have K := K'; clear K')
    | (go_at_call 21; with_reducible (refine (HRB.out _).mono ?_); rintro e w14 ⟨u2, rfl, o14, b14⟩; have K' := Lib.hid (K.out.below b14); have OB := Lib.hid (ints_of_owns o14); clear o14 b14 K; have K := K'; clear K')
    | (go_at_call 12; refine (HSA.out u1 _ _ (OA.out.below ((Below.refl _ _).alloc (Nat.le_refl _) _)) (ints_built .i32 _ 21 [97] (by decide))).mono ?_; rintro e w13 ⟨rfl, q13, hq⟩; have K' : Hid (K3 w w2.heap.size xs w6.heap.size ya (w6.heap.size + 1) yb w13) := Lib.hid (by rw [hq]; exact (K.out.below ((Below.refl _ _).alloc (Nat.le_refl _) _)).below (blw_drewN (Below.refl _ _) q13)); clear hq K OA; have K := K'; clear K')
    | (go_at_call 12; refine (HSB.out u2 _ _ (OB.out.below ((Below.refl _ _).alloc (Nat.le_refl _) _)) (ints_built .i32 _ 21 [10, 98] (by decide))).mono ?_; rintro e w15 ⟨rfl, q15, hq⟩; have K' : Hid (K3 w w2.heap.size xs w6.heap.size ya (w6.heap.size + 1) yb w15) := Lib.hid (by rw [hq]; exact (K.out.below ((Below.refl _ _).alloc (Nat.le_refl _) _)).below (blw_drewN (Below.refl _ _) q15)); clear hq K OB; have K := K'; clear K'))
  go_ret
  exact ⟨rfl, K.out.bel⟩
end Go.Proofs.Ytckdmhklnnmjpaa
