
import Derived.Test.YteodfbkfpboehaaDG
/- DH: a leaf's thing -/
namespace Go.Proofs.Yteodfbkfpboehaa
open Go.RowKit
set_option linter.unusedVariables false
set_option maxRecDepth 100000

theorem below_alloc1 (w : World) (o : Obj) : Below w.heap.size w (w.alloc o) := (Below.refl _ w).alloc (Nat.le_refl _) o
@[reducible] def tcs (an cn : Nat) (root : Int) : Array Value := #[fMea, fCut, fMel, .pointer (some ⟨an, 0, none⟩), .pointer (some ⟨cn, 0, none⟩), .int .i64 root]
section
variable {D : Sv → Prop} {S : Nat → Prop} {tb an cn : Nat} {U V : Nat → Prop} {root : Int} {A A' : ArS Nd} {C C' : ArS Ck} {w w' : World}
theorem TrM.cb (h : TrM D S tb an cn U V root A C w) : Cb tb 92 (tcs an cn root) w := h.hd
theorem cb2_last (w : World) (cs : Array Value) : Cb (w.heap.size + 1) 61 czr ((w.alloc (.cells cs 102)).alloc (.cells czr 61)) := by
  have := cb_new (w.alloc (.cells cs 102)) 61 czr
  rwa [World.size_alloc] at this
theorem thing_any (h : TrM D S tb an cn U V root A C w) (M : Nd) (x : Ck) (hx : (∃ k : Nat, M.thing = (k : Nat) ∧ C.at_ k = some x) ∨ (C.has M.thing = false ∧ x = ck0)) :
    Calls Try.prog 59 #[.pointer (some ⟨tb, 0, none⟩), ndv M] w fun e w' => e = .returned (cvs x) ∧ Below w.heap.size w w' := by
  have hat : ∃ er : Int, ∀ w' : World, Below w.heap.size w w' → Calls Try.prog 79 #[.pointer (some ⟨cn, 0, none⟩), .int .i64 M.thing] w' fun e w'' => e = .returned (.tuple #[cvs x, .int .i64 er]) ∧ Below w'.heap.size w' w'' := by
    rcases hx with ⟨k, hk, hx⟩ | ⟨hx, hl⟩
    · rw [hk]
      exact ⟨0, fun w' hb => ats_X (h.below hb).things hx⟩
    · subst hl
      exact ⟨5, fun w' hb => at_not_X (h.below hb).things hx⟩
  obtain ⟨er, hat⟩ := hat
  have HT := Lib.hid h.cb
  have HS := Lib.hid (xc_size x)
  have HO := Lib.hid (krow_one x)
  unfold cvs at *
  obtain ⟨cx, hcx⟩ : ∃ cx, krow x = cx := ⟨_, rfl⟩
  rw [hcx] at hat HS HO ⊢
  have HAT := Lib.hid hat
  clear hcx hat hx h
  go_enter Try.func59, Try.ntmps59
  go_upto_region 1 with fail
  refine with_worldT (fun W => Cb tb 92 (tcs an cn root) W ∧ Cb w.heap.size 102 (ndc M) W ∧ Cb (w.heap.size + 1) 61 czr W ∧ Below w.heap.size w W) ⟨(HT.out.alloc _).alloc _, (cb_new w _ _).alloc _, cb2_last w (ndc M), ((Below.refl _ w).alloc (Nat.le_refl _) _).alloc (by simp) _⟩ fun W0 hW0 => ?_
  have K_0 := Lib.hid (show Cb tb 92 (tcs an cn root) W0.drew ∧ Cb w.heap.size 102 (ndc M) W0.drew from ⟨hW0.1.below (below_drew _), hW0.2.1.below (below_drew _)⟩)
  have R_0 := Lib.hid (hW0.2.2.1.below (below_drew _))
  have B_0 := Lib.hid hW0.2.2.2.drew
  clear hW0
  refine h_start (S := fun W => Cb tb 92 (tcs an cn root) W ∧ Cb w.heap.size 102 (ndc M) W) (by kernel_rfl) ?_
  refine h_val (i := 0) (v := .pointer (some ⟨tb, 0, none⟩)) rfl (by kernel_rfl) (by kernel_rfl) (by kernel_rfl) (fun _ _ _ h => h) (by rfl) (fun wz hS => ?_) K_0.out ?_
  · skip
    go_simp
  go_frame
  refine h_val (i := 1) (v := .pointer (some ⟨tb, 0, none⟩)) rfl (by kernel_rfl) (by kernel_rfl) (by kernel_rfl) (fun _ _ _ h => h) (by rfl) (fun wz hS => ?_) K_0.out ?_
  · skip
    go_simp
  go_frame
  refine h_val (i := 2) (v := .pointer (some ⟨tb, 4, none⟩)) rfl (by kernel_rfl) (by kernel_rfl) (by kernel_rfl) (fun _ _ _ h => h) (by rfl) (fun wz hS => ?_) K_0.out ?_
  · skip
    go_simp
  go_frame
  refine h_val (i := 3) (v := .pointer (some ⟨cn, 0, none⟩)) rfl (by kernel_rfl) (by kernel_rfl) (by kernel_rfl) (fun _ _ _ h => h) (by rfl) (fun wz hS => ?_) K_0.out ?_
  · skip
    have q4 : wz.cell? ⟨tb, 4, none⟩ = some (.pointer (some ⟨cn, 0, none⟩)) := hS.1.cell 4
    go_simp
  go_frame
  refine h_val (i := 4) (v := .pointer (some ⟨w.heap.size, 6, none⟩)) rfl (by kernel_rfl) (by kernel_rfl) (by kernel_rfl) (fun _ _ _ h => h) (by rfl) (fun wz hS => ?_) K_0.out ?_
  · skip
    go_simp
  go_frame
  refine h_val (i := 5) (v := .int .i64 M.thing) rfl (by kernel_rfl) (by kernel_rfl) (by kernel_rfl) (fun _ _ _ h => h) (by rfl) (fun wz hS => ?_) K_0.out ?_
  · skip
    have q6 : wz.cell? ⟨w.heap.size, 6, none⟩ = some (.int .i64 M.thing) := hS.2.cell 6
    go_simp
  go_frame
  refine h_all2 (i := 6) (j := 10) (by kernel_rfl) ?_ ?_
  · skip
    refine o_call (f := 79) (args := #[.pointer (some ⟨cn, 0, none⟩), .int .i64 M.thing]) rfl (by rfl) (by go_simp) ?_
    refine (HAT.out _ B_0.out).mono ?_
    rintro e w1 ⟨rfl, b1⟩
    have K_1 := Lib.hid (And.intro (K_0.out.1.below b1) (K_0.out.2.below b1))
    have R_1 := Lib.hid (R_0.out.below b1)
    have B_1 := Lib.hid (below_add B_0.out b1 B_0.out.size)
    clear b1
    refine ⟨_, rfl, K_1.out, ?_⟩
    go_frame
    refine h_val (i := 7) (v := .tuple #[.agg cx, .int .i64 er]) rfl (by kernel_rfl) (by kernel_rfl) (by kernel_rfl) (fun _ _ _ h => h) (by rfl) (fun wz hS => ?_) K_1.out ?_
    · skip
      go_simp
    go_frame
    refine h_val (i := 8) (v := .agg cx) rfl (by kernel_rfl) (by kernel_rfl) (by kernel_rfl) (fun _ _ _ h => h) (by rfl) (fun wz hS => ?_) K_1.out ?_
    · skip
      go_simp
    go_frame
    refine h_val (i := 9) (v := .int .i64 er) rfl (by kernel_rfl) (by kernel_rfl) (by kernel_rfl) (fun _ _ _ h => h) (by rfl) (fun wz hS => ?_) K_1.out ?_
    · skip
      go_simp
    go_frame
    refine h_all1 (i := 10) (by kernel_rfl) ?_
    refine o_step rfl (by rfl) ?_
    refine wp_alloc_row 61 rfl czr xzero ?_
    have v2 := cb_new w1 61 czr
    have z2 : w.heap.size + 1 < (w1).heap.size := R_1.out.lt
    have K_2 := Lib.hid (And.intro (K_1.out.1.alloc (.cells czr 61)) (K_1.out.2.alloc (.cells czr 61)))
    have R_2 := Lib.hid (R_1.out.alloc (.cells czr 61))
    have B_2 := Lib.hid (B_1.out.alloc B_1.out.size (.cells czr 61))
    obtain ⟨b5, e5⟩ : ∃ b5, (w1).heap.size = b5 := ⟨_, rfl⟩
    rw [e5] at v2 z2 ⊢
    have V_2 := Lib.hid v2
    clear v2 e5
    refine ⟨K_2.out, ?_⟩
    go_frame
    refine h_all1 (i := 11) (by kernel_rfl) ?_
    refine o_step rfl (by rfl) ?_
    refine wp_store_row 61 (.tmp 5) (.tmp 15) rfl b5 cx rfl rfl _ _ V_2.out (xinfo HS.out) (by rw [HS.out]; exact xz_size) HO.out ?_
    have K_e := Lib.hid (And.intro (K_2.out.1.other (c := b5) (by have := HT.out.lt; omega) cx) (K_2.out.2.other (c := b5) (by omega) cx))
    have V_e := Lib.hid (V_2.out.set cx)
    have R_e := Lib.hid (R_2.out.other (c := b5) (by omega) cx)
    have B_e := Lib.hid (below_row (cs := cx) B_2.out (show w.heap.size ≤ b5 by omega))
    refine ⟨K_e.out, ?_⟩
    go_frame
    refine h_val (i := 12) (v := .int .i64 er) rfl (by kernel_rfl) (by kernel_rfl) (by kernel_rfl) (fun _ _ _ h => h) (by rfl) (fun wz hS => ?_) K_e.out ?_
    · skip
      go_simp
    go_frame
    refine h_done (by kernel_rfl) ?_
    go_wp2_with (first
      | (refine wpList_load_roww 61 (.tmp 5) rfl b5 rfl (by rfl) _ _ _ _ V_e.out Try.underlying61 rfl (xinfo HS.out) ?_)
      | (refine wpList_store_row rfl 61 (.tmp 4) (.tmp 17) rfl (w.heap.size + 1) cx rfl rfl _ _ R_e.out (xinfo HS.out) (by rw [HS.out]; exact xz_size) HO.out ?_))
    exact bodyPost_ret (results_cell_row Try.results59 _ _ _ _ _ _ _ rfl (R_e.out.set cx) Try.underlying61 rfl (xinfo HS.out)) rfl ⟨rfl, below_row B_e.out (by omega)⟩
  · skip
    refine o_step rfl (by rfl) ?_
    refine wp_alloc_row 61 rfl czr xzero ?_
    have v4 := cb_new W0.drew 61 czr
    have z4 : w.heap.size + 1 < (W0.drew).heap.size := R_0.out.lt
    have K_4 := Lib.hid (And.intro (K_0.out.1.alloc (.cells czr 61)) (K_0.out.2.alloc (.cells czr 61)))
    have R_4 := Lib.hid (R_0.out.alloc (.cells czr 61))
    have B_4 := Lib.hid (B_0.out.alloc B_0.out.size (.cells czr 61))
    obtain ⟨b5, e5⟩ : ∃ b5, (W0.drew).heap.size = b5 := ⟨_, rfl⟩
    rw [e5] at v4 z4 ⊢
    have V_4 := Lib.hid v4
    clear v4 e5
    refine ⟨K_4.out, ?_⟩
    go_frame
    refine h_all1 (i := 6) (by kernel_rfl) ?_
    refine o_call (f := 79) (args := #[.pointer (some ⟨cn, 0, none⟩), .int .i64 M.thing]) rfl (by rfl) (by go_simp) ?_
    refine (HAT.out _ B_4.out).mono ?_
    rintro e w5 ⟨rfl, b5⟩
    have K_5 := Lib.hid (And.intro (K_4.out.1.below b5) (K_4.out.2.below b5))
    have R_5 := Lib.hid (R_4.out.below b5)
    have B_5 := Lib.hid (below_add B_4.out b5 B_4.out.size)
    have V_5 := Lib.hid (V_4.out.below b5)
    clear b5
    refine ⟨_, rfl, K_5.out, ?_⟩
    go_frame
    refine h_val (i := 7) (v := .tuple #[.agg cx, .int .i64 er]) rfl (by kernel_rfl) (by kernel_rfl) (by kernel_rfl) (fun _ _ _ h => h) (by rfl) (fun wz hS => ?_) K_5.out ?_
    · skip
      go_simp
    go_frame
    refine h_val (i := 8) (v := .agg cx) rfl (by kernel_rfl) (by kernel_rfl) (by kernel_rfl) (fun _ _ _ h => h) (by rfl) (fun wz hS => ?_) K_5.out ?_
    · skip
      go_simp
    go_frame
    refine h_val (i := 9) (v := .int .i64 er) rfl (by kernel_rfl) (by kernel_rfl) (by kernel_rfl) (fun _ _ _ h => h) (by rfl) (fun wz hS => ?_) K_5.out ?_
    · skip
      go_simp
    go_frame
    refine h_all1 (i := 11) (by kernel_rfl) ?_
    refine o_step rfl (by rfl) ?_
    refine wp_store_row 61 (.tmp 5) (.tmp 15) rfl b5 cx rfl rfl _ _ V_5.out (xinfo HS.out) (by rw [HS.out]; exact xz_size) HO.out ?_
    have K_e := Lib.hid (And.intro (K_5.out.1.other (c := b5) (by have := HT.out.lt; omega) cx) (K_5.out.2.other (c := b5) (by omega) cx))
    have V_e := Lib.hid (V_5.out.set cx)
    have R_e := Lib.hid (R_5.out.other (c := b5) (by omega) cx)
    have B_e := Lib.hid (below_row (cs := cx) B_5.out (show w.heap.size ≤ b5 by omega))
    refine ⟨K_e.out, ?_⟩
    go_frame
    refine h_val (i := 12) (v := .int .i64 er) rfl (by kernel_rfl) (by kernel_rfl) (by kernel_rfl) (fun _ _ _ h => h) (by rfl) (fun wz hS => ?_) K_e.out ?_
    · skip
      go_simp
    go_frame
    refine h_done (by kernel_rfl) ?_
    go_wp2_with (first
      | (refine wpList_load_roww 61 (.tmp 5) rfl b5 rfl (by rfl) _ _ _ _ V_e.out Try.underlying61 rfl (xinfo HS.out) ?_)
      | (refine wpList_store_row rfl 61 (.tmp 4) (.tmp 17) rfl (w.heap.size + 1) cx rfl rfl _ _ R_e.out (xinfo HS.out) (by rw [HS.out]; exact xz_size) HO.out ?_))
    exact bodyPost_ret (results_cell_row Try.results59 _ _ _ _ _ _ _ rfl (R_e.out.set cx) Try.underlying61 rfl (xinfo HS.out)) rfl ⟨rfl, below_row B_e.out (by omega)⟩
end
end Go.Proofs.Yteodfbkfpboehaa
