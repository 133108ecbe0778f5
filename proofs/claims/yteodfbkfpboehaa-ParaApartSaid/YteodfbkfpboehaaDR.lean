
import Derived.Test.YteodfbkfpboehaaDQ
/- DR: a leaf is cut; split, whatever the tree; things in a row -/
namespace Go.Proofs.Yteodfbkfpboehaa
open Go.RowKit
set_option linter.unusedVariables false
set_option maxRecDepth 100000

section
variable {D : Sv → Prop} {Q : Nat} {tb : Nat} {root : Int}
theorem cut_wt {x : Ck} {k : Nat} (hk : 0 < k) (hl : k < x.n) : (cutA x k).l = [cutA x k] ∧ (cutB x k).l = [cutB x k] ∧ x.l = [x] := by
  refine ⟨?_, ?_, ?_⟩ <;> unfold Ck.l
  · exact if_neg (show ¬ k = 0 by omega)
  · exact if_neg (show ¬ x.n - k = 0 by omega)
  · exact if_neg (show ¬ x.n = 0 by omega)
theorem cut_flat {x : Ck} {k : Nat} (hl : k ≤ x.n) : flat (cutA x k).l = (flat x.l).take k ∧ flat (cutB x k).l = (flat x.l).drop k := by
  rw [flat_l, flat_l, flat_l, List.take_replicate, List.drop_replicate]
  exact ⟨by show List.replicate k x.d.s = _; rw [Nat.min_eq_left hl], rfl⟩

set_option maxHeartbeats 4000000 in
theorem split_leaf (n t : Nat) (x : Ck) (k : Nat) (hk : 0 < k) (hl : k < x.n) : SplitQ D Q tb root (Tr.leaf n t x : TC) k := by
  intro S F w h hup hQ
  have hQ' : Q ≤ 4000000000 := by omega
  have hle := (h.ht hQ' _ List.mem_cons_self).2.1
  have d1 : decide (((k : Nat) : Int) ≤ 0) = false := decide_eq_false (by omega)
  have d1' : decide (k = 0) = false := decide_eq_false (by omega)
  have hk2 : (k == 0) = false := by rw [beq_eq_false_iff_ne]; omega
  have hl0 : Wc.ln (Tr.el Wc (Tr.leaf n t x : TC)) = x.n := lnS_l x
  have d2 : decide (Wc.ln (Tr.el Wc (Tr.leaf n t x : TC)) ≤ k) = false := decide_eq_false (by omega)
  have d2' : decide (((Wc.ln (Tr.el Wc (Tr.leaf n t x : TC)) : Nat) : Int) ≤ ((k : Nat) : Int)) = false := decide_eq_false (by omega)

  have H := Lib.hid h
  have HUP := Lib.hid hup
  have HQ := Lib.hid hQ
  have hat := at_st (Tr.leaf n t x : TC) List.mem_cons_self h
  obtain ⟨M, hM, hMl, hMh⟩ := cut_form (Tr.leaf n t x : TC)
  have hat' : Calls Try.prog 51 #[.pointer (some ⟨tb, 0, none⟩), .int .i64 (Tr.id (Tr.leaf n t x : TC))] w fun e w' => e = .returned (ndv M) ∧ Below w.heap.size w w' := by
    rw [← hM, ndv_q]; exact hat
  have HAT := Lib.hid hat'
  have HML : Hid (M.len = (Wc.ln (Tr.el Wc (Tr.leaf n t x : TC)) : Nat)) := Lib.hid hMl
  have HMH : Hid (M.height = ((Tr.ht (Tr.leaf n t x : TC) : Nat) : Int)) := Lib.hid hMh
  have hf : Hid (∀ w, Calls Try.prog 57 #[ndv M] w fun e w' => e = .returned (.bool false) ∧ Below w.heap.size w w') := Lib.hid (fun w => by
    have := isfork_any M w
    rw [hMh] at this
    exact this)
  obtain ⟨⟨an, cn, U, V, A, C, h1, h2⟩, -⟩ := h
  have hin := h2.inn _ List.mem_cons_self
  have hth : M.thing = (t : Nat) := by rw [← hM]; rfl
  have HTH := Lib.hid (fun (w' : World) (h' : TrM D S tb an cn U V root A C w') => thing_any h' M x (.inl ⟨t, hth, hin.2.1⟩))
  have HT := Lib.hid h1
  have HDX := Lib.hid (show D x.d from H.out.dmem (T := (Tr.leaf n t x : TC)) (by simp) (by show x ∈ x.l; unfold Ck.l; rw [if_neg (by omega)]; simp))
  have HCUT := Lib.hid (fun w => cutw_any x k (by omega) (by omega) w)
  have HLA := Lib.hid (fun (Q' : Nat) (S' : Nat → Prop) (F' : List TC) (w' : World) (h' : Sq D Q' S' tb root F' w') (hup' : Up S' w') (hQ' : Q' ≤ 4000000000) => leaf_q (cutA x k) h' hup' hQ' (show D x.d from HDX.out))
  have HLB := Lib.hid (fun (Q' : Nat) (S' : Nat → Prop) (F' : List TC) (w' : World) (h' : Sq D Q' S' tb root F' w') (hup' : Up S' w') (hQ' : Q' ≤ 4000000000) => leaf_q (cutB x k) h' hup' hQ' (show D x.d from HDX.out))
  obtain ⟨oA, oB, oX⟩ := cut_wt hk hl
  have wA : Wc.wt (cutA x k).l = k + 10000 := by rw [oA]; exact wt_one oA
  have wB : Wc.wt (cutB x k).l = x.n - k + 10000 := by rw [oB]; exact wt_one oB
  have wX : Wc.wt (Tr.el Wc (Tr.leaf n t x : TC)) = x.n + 10000 := by show Wc.wt x.l = _; rw [oX]; exact wt_one oX
  have hxQ : x.n ≤ Q := by have := H.out.2; rw [tot_cons, wX] at this; omega
  have LA : Hid (Wc.wt (cutA x k).l ≤ 1500000000) := Lib.hid (by omega)
  have LC : Hid (Wc.wt (cutA x k).l + Wc.wt (cutB x k).l = Wc.wt (Tr.el Wc (Tr.leaf n t x : TC)) + 10000) := Lib.hid (by omega)
  have EKP : Hid (Pr (cutA x k).l ∧ Pr (cutB x k).l) := Lib.hid (by rw [oA, oB]; exact ⟨pr_one hk, pr_one (show 0 < x.n - k by omega)⟩)
  have LB : Hid (Wc.wt (cutB x k).l ≤ 1500000000) := Lib.hid (by omega)
  have SA := Lib.hid (xc_size (cutA x k))
  have SB := Lib.hid (xc_size (cutB x k))
  have OA1 := Lib.hid (krow_one (cutA x k))
  have OB1 := Lib.hid (krow_one (cutB x k))
  have EKA := Lib.hid (show flat (cutA x k).l = (flat (Tr.el Wc (Tr.leaf n t x : TC))).take k from (cut_flat (Nat.le_of_lt hl)).1)
  have EKB := Lib.hid (show flat (cutB x k).l = (flat (Tr.el Wc (Tr.leaf n t x : TC))).drop k from (cut_flat (Nat.le_of_lt hl)).2)
  unfold cvs at HTH HCUT HLA HLB
  obtain ⟨cx, hcx⟩ : ∃ cx, krow x = cx := ⟨_, rfl⟩
  obtain ⟨ca, hca⟩ : ∃ ca, krow (cutA x k) = ca := ⟨_, rfl⟩
  obtain ⟨cb, hcb⟩ : ∃ cb, krow (cutB x k) = cb := ⟨_, rfl⟩
  rw [hcx] at HTH
  rw [hcx, hca, hcb] at HCUT
  rw [hca] at HLA SA OA1
  rw [hcb] at HLB SB OB1
  obtain ⟨xa, hxa⟩ : ∃ xa, cutA x k = xa := ⟨_, rfl⟩
  obtain ⟨xb, hxb⟩ : ∃ xb, cutB x k = xb := ⟨_, rfl⟩
  rw [hxa] at HLA LA EKA LC EKP
  rw [hxb] at HLB LB EKB LC EKP
  clear oA oB oX wA wB wX hxQ hup hQ hat hM hMl hMh hat' hQ' hk hl hl0 h1 h2 hin hth hcx hca hcb hxa hxb hle
  go_enter Try.func43, Try.ntmps43
  go_upto_region 7 with (first
    | (go_at_call 51; refine HAT.out.mono ?_; rintro e w1 ⟨rfl, b1⟩; have B1 := Lib.hid (b1.alloc b1.size (.cells ndz 102)); have V1 := Lib.hid (cb_new w1 102 ndz); have V2 := Lib.hid (V1.out.set (ndc M)); have B2 := Lib.hid (below_row (cs := ndc M) B1.out (b := w1.heap.size) b1.size); have Z1 := Lib.hid b1.size; clear b1; have c2 : _ = some (Value.int .i64 (Wc.ln (Tr.el Wc (Tr.leaf n t x : TC)) : Nat)) := (V2.out.cell 2).trans (by rw [← HML.out]; rfl))
    | (refine wpList_store_row rfl 102 (.tmp 8) (.tmp 16) rfl w1.heap.size (ndc M) rfl rfl _ _ V1.out (ninfo M) rfl (none_n M) ?_)
    | (refine wpList_load_roww 102 (.tmp 8) rfl w1.heap.size rfl (by rfl) _ _ _ _ V2.out Try.underlying102 rfl (ninfo M) ?_)
    | (go_at_call 57; refine (hf.out _).mono ?_; clear hf; rintro e w2 ⟨rfl, b2⟩; have B3 := Lib.hid (below_add B2.out b2 B2.out.size); have V3 := Lib.hid (V2.out.below b2); clear b2))
  refine with_worldT (fun W => Cb w1.heap.size 102 (ndc M) W ∧ Below w.heap.size w W) ⟨V3.out, B3.out⟩ fun W0 hW0 => ?_
  obtain ⟨b8, hb8⟩ : ∃ b8, w1.heap.size = b8 := ⟨_, rfl⟩
  have Z8 : Hid (w.heap.size ≤ b8) := Lib.hid (hb8 ▸ Z1.out)
  rw [hb8] at hW0
  refine Hid.out ?_
  rw [hb8]
  refine Lib.hid ?_
  have T_0 := Lib.hid (HT.out.below hW0.2.drew)
  have B_0 := Lib.hid hW0.2.drew
  have K_0 := Lib.hid (show Cb tb 92 (tcs an cn root) W0.drew ∧ Cb b8 102 (ndc M) W0.drew from ⟨T_0.out.cb, hW0.1.below (below_drew _)⟩)
  clear hW0 c2 hb8 V1 V2 V3 B1 B2 B3 Z1 HAT
  refine h_start (S := fun W => Cb tb 92 (tcs an cn root) W ∧ Cb b8 102 (ndc M) W) (by kernel_rfl) ?_
  refine h_val (i := 0) (v := .pointer (some ⟨tb, 0, none⟩)) rfl (by kernel_rfl) (by kernel_rfl) (by kernel_rfl) (fun _ _ _ h => h) (by rfl) (fun wz hS => ?_) K_0.out ?_
  · skip
    go_simp
  go_frame
  refine h_val (i := 1) (v := .pointer (some ⟨tb, 0, none⟩)) rfl (by kernel_rfl) (by kernel_rfl) (by kernel_rfl) (fun _ _ _ h => h) (by rfl) (fun wz hS => ?_) K_0.out ?_
  · skip
    go_simp
  go_frame
  refine h_val (i := 2) (v := .pointer (some ⟨tb, 0, none⟩)) rfl (by kernel_rfl) (by kernel_rfl) (by kernel_rfl) (fun _ _ _ h => h) (by rfl) (fun wz hS => ?_) K_0.out ?_
  · skip
    go_simp
  go_frame
  refine h_val (i := 3) (v := .pointer (some ⟨tb, 1, none⟩)) rfl (by kernel_rfl) (by kernel_rfl) (by kernel_rfl) (fun _ _ _ h => h) (by rfl) (fun wz hS => ?_) K_0.out ?_
  · skip
    go_simp
  go_frame
  refine h_val (i := 4) (v := .func (.func 55) #[] #[]) rfl (by kernel_rfl) (by kernel_rfl) (by kernel_rfl) (fun _ _ _ h => h) (by rfl) (fun wz hS => ?_) K_0.out ?_
  · skip
    have q1 : wz.cell? ⟨tb, 1, none⟩ = some (.func (.func 55) #[] #[]) := hS.1.cell 1
    go_simp
  go_frame
  refine h_val (i := 5) (v := .pointer (some ⟨tb, 0, none⟩)) rfl (by kernel_rfl) (by kernel_rfl) (by kernel_rfl) (fun _ _ _ h => h) (by rfl) (fun wz hS => ?_) K_0.out ?_
  · skip
    go_simp
  go_frame
  refine h_val (i := 6) (v := ndv M) rfl (by kernel_rfl) (by kernel_rfl) (by kernel_rfl) (fun _ _ _ h => h) (by rfl) (fun wz hS => ?_) K_0.out ?_
  · skip
    exact x_load 102 (.tmp 8) rfl _ rfl _ _ _ _ hS.2 Try.underlying102 rfl (ninfo M)
  go_frame
  refine h_val (i := 8) (v := .int .i64 (k : Nat)) rfl (by kernel_rfl) (by kernel_rfl) (by kernel_rfl) (fun _ _ _ h => h) (by rfl) (fun wz hS => ?_) K_0.out ?_
  · skip
    go_simp
  go_frame
  refine h_all3 (i := 7) (j := 13) (k := 14) (by kernel_rfl) ?_ ?_ ?_
  · skip
    refine o_call (f := 59) (args := #[.pointer (some ⟨tb, 0, none⟩), ndv M]) rfl (by rfl) (by go_simp) ?_
    refine (HTH.out _ T_0.out).mono ?_
    rintro e w1 ⟨rfl, b1⟩
    have K_1 := Lib.hid (And.intro (K_0.out.1.below b1) (K_0.out.2.below b1))
    have T_1 := Lib.hid (T_0.out.below b1)
    have B_1 := Lib.hid (below_add B_0.out b1 B_0.out.size)
    clear b1
    refine ⟨_, rfl, K_1.out, ?_⟩
    go_frame
    refine h_all3 (i := 9) (j := 13) (k := 14) (by kernel_rfl) ?_ ?_ ?_
    · skip
      refine o_call (f := 55) (args := #[.agg cx, .int .i64 (k : Nat)]) rfl (by rfl) (by go_simp) ?_
      refine (HCUT.out _).mono ?_
      rintro e w2 ⟨rfl, b2⟩
      have K_2 := Lib.hid (And.intro (K_1.out.1.below b2) (K_1.out.2.below b2))
      have T_2 := Lib.hid (T_1.out.below b2)
      have B_2 := Lib.hid (below_add B_1.out b2 B_1.out.size)
      clear b2
      refine ⟨_, rfl, K_2.out, ?_⟩
      go_frame
      refine h_val (i := 10) (v := .tuple #[.agg ca, .agg cb]) rfl (by kernel_rfl) (by kernel_rfl) (by kernel_rfl) (fun _ _ _ h => h) (by rfl) (fun wz hS => ?_) K_2.out ?_
      · skip
        go_simp
      go_frame
      refine h_val (i := 11) (v := .agg ca) rfl (by kernel_rfl) (by kernel_rfl) (by kernel_rfl) (fun _ _ _ h => h) (by rfl) (fun wz hS => ?_) K_2.out ?_
      · skip
        go_simp
      go_frame
      refine h_val (i := 12) (v := .agg cb) rfl (by kernel_rfl) (by kernel_rfl) (by kernel_rfl) (fun _ _ _ h => h) (by rfl) (fun wz hS => ?_) K_2.out ?_
      · skip
        go_simp
      go_frame
      refine h_all2 (i := 13) (j := 14) (by kernel_rfl) ?_ ?_
      · skip
        refine o_step rfl (by rfl) ?_
        refine wp_alloc_row 61 rfl czr xzero ?_
        have v3 := cb_new w2 61 czr
        have z3 : w.heap.size ≤ (w2).heap.size := B_2.out.size
        have y3 : tb < (w2).heap.size := K_2.out.1.lt
        have x3 : b8 < (w2).heap.size := K_2.out.2.lt
        have K_3 := Lib.hid (And.intro (K_2.out.1.alloc (.cells czr 61)) (K_2.out.2.alloc (.cells czr 61)))
        have T_3 := Lib.hid (T_2.out.below (below_alloc1 _ (.cells czr 61)))
        have B_3 := Lib.hid (B_2.out.alloc B_2.out.size (.cells czr 61))
        obtain ⟨b9, e7⟩ : ∃ b9, (w2).heap.size = b9 := ⟨_, rfl⟩
        rw [e7] at v3 z3 y3 x3 ⊢
        have V9_3 := Lib.hid v3
        have Zb9 := Lib.hid z3
        have Yb9 := Lib.hid y3
        have Xb9 := Lib.hid x3
        clear v3 e7 z3 y3 x3
        refine ⟨K_3.out, ?_⟩
        go_frame
        refine h_all1 (i := 14) (by kernel_rfl) ?_
        refine o_step rfl (by rfl) ?_
        refine wp_alloc_row 61 rfl czr xzero ?_
        have v4 := cb_new (w2.alloc (.cells czr 61)) 61 czr
        have z4 : w.heap.size ≤ ((w2.alloc (.cells czr 61))).heap.size := B_3.out.size
        have y4 : tb < ((w2.alloc (.cells czr 61))).heap.size := K_3.out.1.lt
        have x4 : b8 < ((w2.alloc (.cells czr 61))).heap.size := K_3.out.2.lt
        have u4 : b9 < ((w2.alloc (.cells czr 61))).heap.size := V9_3.out.lt
        have K_4 := Lib.hid (And.intro (K_3.out.1.alloc (.cells czr 61)) (K_3.out.2.alloc (.cells czr 61)))
        have T_4 := Lib.hid (T_3.out.below (below_alloc1 _ (.cells czr 61)))
        have B_4 := Lib.hid (B_3.out.alloc B_3.out.size (.cells czr 61))
        have V9_4 := Lib.hid (V9_3.out.alloc (.cells czr 61))
        obtain ⟨b10, e7⟩ : ∃ b10, ((w2.alloc (.cells czr 61))).heap.size = b10 := ⟨_, rfl⟩
        rw [e7] at v4 z4 y4 x4 u4 ⊢
        have V10_4 := Lib.hid v4
        have Zb10 := Lib.hid z4
        have Yb10 := Lib.hid y4
        have Xb10 := Lib.hid x4
        have NE : Hid (b9 ≠ b10) := Lib.hid (by omega)
        clear u4
        clear v4 e7 z4 y4 x4
        refine ⟨K_4.out, ?_⟩
        go_frame
        refine h_all1 (i := 15) (by kernel_rfl) ?_
        refine o_step rfl (by rfl) ?_
        refine wp_store_row 61 (.tmp 9) (.tmp 43) rfl b9 ca rfl rfl _ _ V9_4.out (xinfo SA.out) (by rw [SA.out]; exact xz_size) OA1.out ?_
        have K_e := Lib.hid (And.intro (K_4.out.1.other (c := b9) (by have := Yb9.out; omega) ca) (K_4.out.2.other (c := b9) (by have := Xb9.out; omega) ca))
        have V9_e := Lib.hid (V9_4.out.set ca)
        have V10_e := Lib.hid (V10_4.out.other (c := b9) NE.out.symm ca)
        have B_e := Lib.hid (below_row (cs := ca) B_4.out Zb9.out)
        refine ⟨K_e.out, ?_⟩
        go_frame
        refine h_all1 (i := 16) (by kernel_rfl) ?_
        refine o_step rfl (by rfl) ?_
        refine wp_store_row 61 (.tmp 10) (.tmp 44) rfl b10 cb rfl rfl _ _ V10_e.out (xinfo SB.out) (by rw [SB.out]; exact xz_size) OB1.out ?_
        have K_f := Lib.hid (And.intro (K_e.out.1.other (c := b10) (by have := Yb10.out; omega) cb) (K_e.out.2.other (c := b10) (by have := Xb10.out; omega) cb))
        have V9_f := Lib.hid (V9_e.out.other (c := b10) NE.out cb)
        have V10_f := Lib.hid (V10_e.out.set cb)
        have B_f := Lib.hid (below_row (cs := cb) B_e.out Zb10.out)
        refine ⟨K_f.out, ?_⟩
        go_frame
        refine h_done (by kernel_rfl) ?_
        go_upto_region 8 with fail
        refine with_worldT (fun W => Cb b9 61 ca W ∧ Cb b10 61 cb W ∧ Below w.heap.size w W) ⟨V9_f.out, V10_f.out, B_f.out⟩ fun W8 hW8 => ?_
        have B_8 := Lib.hid hW8.2.2
        have HN9 := Lib.hid (loc_not (S := S) (w := w) (W := W8) (b := b9) Zb9.out hW8.1.lt)
        have HN10 := Lib.hid (loc_not (S := S) (w := w) (W := W8) (b := b10) Zb10.out hW8.2.1.lt)
        have HS4 := Lib.hid (loc_sub (S := S) (w := w) (W := W8) HUP.out hW8.2.2.size)
        have S0 := Lib.hid (H.out.loc hW8.2.2)
        have P0 := Lib.hid (loc_up S w W8)
        generalize Loc S w W8 = S4 at *
        have C9 := Lib.hid hW8.1
        have C10 := Lib.hid hW8.2.1
        clear hW8 K_e K_f V9_e V10_e V9_f V10_f B_e B_f HT HTH HCUT
        go_upto_region 9 with (go_at_call 44; refine (drop_q (Tr.leaf n t x : TC) S0.out P0.out).mono ?_; rintro e v0 ⟨rfl, ss, oo⟩; have S1 := Lib.hid (ss.below (below_drew v0)); have O1 := Lib.hid (oo.below_r (below_drew v0)); have P1 := Lib.hid ((P0.out.off oo).below (below_drew (B := 0) v0)); have K_19 := Lib.hid (And.intro ((C9.out.off oo HN9.out).below (below_drew v0)) ((C10.out.off oo HN10.out).below (below_drew v0))); clear ss oo)
        refine h_start (S := fun W => Cb b9 61 ca W ∧ Cb b10 61 cb W) (by kernel_rfl) ?_
        refine h_val (i := 0) (v := .pointer (some ⟨tb, 0, none⟩)) rfl (by kernel_rfl) (by kernel_rfl) (by kernel_rfl) (fun _ _ _ h => h) (by rfl) (fun wz hS => ?_) K_19.out ?_
        · skip
          go_simp
        go_frame
        refine h_val (i := 1) (v := .agg ca) rfl (by kernel_rfl) (by kernel_rfl) (by kernel_rfl) (fun _ _ _ h => h) (by rfl) (fun wz hS => ?_) K_19.out ?_
        · skip
          exact x_load 61 (.tmp 9) rfl _ rfl _ _ _ _ hS.1 Try.underlying61 rfl (xinfo SA.out)
        go_frame
        refine h_val (i := 3) (v := .pointer (some ⟨tb, 0, none⟩)) rfl (by kernel_rfl) (by kernel_rfl) (by kernel_rfl) (fun _ _ _ h => h) (by rfl) (fun wz hS => ?_) K_19.out ?_
        · skip
          go_simp
        go_frame
        refine h_val (i := 4) (v := .agg cb) rfl (by kernel_rfl) (by kernel_rfl) (by kernel_rfl) (fun _ _ _ h => h) (by rfl) (fun wz hS => ?_) K_19.out ?_
        · skip
          exact x_load 61 (.tmp 10) rfl _ rfl _ _ _ _ hS.2 Try.underlying61 rfl (xinfo SB.out)
        go_frame
        refine h_all1 (i := 2) (by kernel_rfl) ?_
        refine o_call (f := 61) (args := #[.pointer (some ⟨tb, 0, none⟩), .agg ca]) rfl (by rfl) (by go_simp) ?_
        refine (HLA.out _ S4 _ _ S1.out P1.out (by have := HQ.out; have := LA.out; omega)).mono ?_
        rintro e v2 ⟨a, rfl, ea, ss, oo⟩
        have K_29 := Lib.hid (And.intro (K_19.out.1.off oo HN9.out) (K_19.out.2.off oo HN10.out))
        have S2 := Lib.hid ss
        have O2 := Lib.hid (O1.out.seq oo)
        have P2 := Lib.hid (P1.out.off oo)
        have Ea := Lib.hid ea
        clear ss oo ea
        refine ⟨_, rfl, K_29.out, ?_⟩
        go_frame
        refine h_all1 (i := 5) (by kernel_rfl) ?_
        refine o_call (f := 61) (args := #[.pointer (some ⟨tb, 0, none⟩), .agg cb]) rfl (by rfl) (by go_simp) ?_
        refine (HLB.out _ S4 _ _ S2.out P2.out (by have := HQ.out; have := LA.out; omega)).mono ?_
        rintro e v3 ⟨b, rfl, eb, ss, oo⟩
        have K_39 := Lib.hid (And.intro (K_29.out.1.off oo HN9.out) (K_29.out.2.off oo HN10.out))
        have S3 := Lib.hid ss
        have O3 := Lib.hid (O2.out.seq oo)
        have P3 := Lib.hid (P2.out.off oo)
        have Eb := Lib.hid eb
        clear ss oo eb
        refine ⟨_, rfl, K_39.out, ?_⟩
        go_frame
        refine h_val (i := 6) (v := .int .i64 a.id) rfl (by kernel_rfl) (by kernel_rfl) (by kernel_rfl) (fun _ _ _ h => h) (by rfl) (fun wz hS => ?_) K_39.out ?_
        · skip
          go_simp
        go_frame
        refine h_val (i := 7) (v := .int .i64 b.id) rfl (by kernel_rfl) (by kernel_rfl) (by kernel_rfl) (fun _ _ _ h => h) (by rfl) (fun wz hS => ?_) K_39.out ?_
        · skip
          go_simp
        go_frame
        refine h_done (by kernel_rfl) ?_
        go_wp2
        have h3 := S3.out.swap
        refine bodyPost_ret (by simp [results, Try.results43, go_sem]) rfl ⟨a, b, rfl, ⟨by rw [Ea.out]; exact EKA.out, by rw [Eb.out]; exact EKB.out, fun _ => by rw [Ea.out, Eb.out]; exact EKP.out⟩, ⟨h3.1.mono HS4.out, ?_⟩, Off.below_l B_8.out (O3.out.mono HS4.out)⟩
        have h5 := H.out.2
        rw [tot_cons] at h5
        have h6 := LC.out
        rw [tot_cons, tot_cons, Ea.out, Eb.out]
        omega
      · skip
        refine o_step rfl (by rfl) ?_
        refine wp_alloc_row 61 rfl czr xzero ?_
        have v7 := cb_new w2 61 czr
        have z7 : w.heap.size ≤ (w2).heap.size := B_2.out.size
        have y7 : tb < (w2).heap.size := K_2.out.1.lt
        have x7 : b8 < (w2).heap.size := K_2.out.2.lt
        have K_7 := Lib.hid (And.intro (K_2.out.1.alloc (.cells czr 61)) (K_2.out.2.alloc (.cells czr 61)))
        have T_7 := Lib.hid (T_2.out.below (below_alloc1 _ (.cells czr 61)))
        have B_7 := Lib.hid (B_2.out.alloc B_2.out.size (.cells czr 61))
        obtain ⟨b10, e7⟩ : ∃ b10, (w2).heap.size = b10 := ⟨_, rfl⟩
        rw [e7] at v7 z7 y7 x7 ⊢
        have V10_7 := Lib.hid v7
        have Zb10 := Lib.hid z7
        have Yb10 := Lib.hid y7
        have Xb10 := Lib.hid x7
        clear v7 e7 z7 y7 x7
        refine ⟨K_7.out, ?_⟩
        go_frame
        refine h_all1 (i := 13) (by kernel_rfl) ?_
        refine o_step rfl (by rfl) ?_
        refine wp_alloc_row 61 rfl czr xzero ?_
        have v8 := cb_new (w2.alloc (.cells czr 61)) 61 czr
        have z8 : w.heap.size ≤ ((w2.alloc (.cells czr 61))).heap.size := B_7.out.size
        have y8 : tb < ((w2.alloc (.cells czr 61))).heap.size := K_7.out.1.lt
        have x8 : b8 < ((w2.alloc (.cells czr 61))).heap.size := K_7.out.2.lt
        have u8 : b10 < ((w2.alloc (.cells czr 61))).heap.size := V10_7.out.lt
        have K_8 := Lib.hid (And.intro (K_7.out.1.alloc (.cells czr 61)) (K_7.out.2.alloc (.cells czr 61)))
        have T_8 := Lib.hid (T_7.out.below (below_alloc1 _ (.cells czr 61)))
        have B_8 := Lib.hid (B_7.out.alloc B_7.out.size (.cells czr 61))
        have V10_8 := Lib.hid (V10_7.out.alloc (.cells czr 61))
        obtain ⟨b9, e7⟩ : ∃ b9, ((w2.alloc (.cells czr 61))).heap.size = b9 := ⟨_, rfl⟩
        rw [e7] at v8 z8 y8 x8 u8 ⊢
        have V9_8 := Lib.hid v8
        have Zb9 := Lib.hid z8
        have Yb9 := Lib.hid y8
        have Xb9 := Lib.hid x8
        have NE : Hid (b9 ≠ b10) := Lib.hid (by omega)
        clear u8
        clear v8 e7 z8 y8 x8
        refine ⟨K_8.out, ?_⟩
        go_frame
        refine h_all1 (i := 15) (by kernel_rfl) ?_
        refine o_step rfl (by rfl) ?_
        refine wp_store_row 61 (.tmp 9) (.tmp 43) rfl b9 ca rfl rfl _ _ V9_8.out (xinfo SA.out) (by rw [SA.out]; exact xz_size) OA1.out ?_
        have K_e := Lib.hid (And.intro (K_8.out.1.other (c := b9) (by have := Yb9.out; omega) ca) (K_8.out.2.other (c := b9) (by have := Xb9.out; omega) ca))
        have V9_e := Lib.hid (V9_8.out.set ca)
        have V10_e := Lib.hid (V10_8.out.other (c := b9) NE.out.symm ca)
        have B_e := Lib.hid (below_row (cs := ca) B_8.out Zb9.out)
        refine ⟨K_e.out, ?_⟩
        go_frame
        refine h_all1 (i := 16) (by kernel_rfl) ?_
        refine o_step rfl (by rfl) ?_
        refine wp_store_row 61 (.tmp 10) (.tmp 44) rfl b10 cb rfl rfl _ _ V10_e.out (xinfo SB.out) (by rw [SB.out]; exact xz_size) OB1.out ?_
        have K_f := Lib.hid (And.intro (K_e.out.1.other (c := b10) (by have := Yb10.out; omega) cb) (K_e.out.2.other (c := b10) (by have := Xb10.out; omega) cb))
        have V9_f := Lib.hid (V9_e.out.other (c := b10) NE.out cb)
        have V10_f := Lib.hid (V10_e.out.set cb)
        have B_f := Lib.hid (below_row (cs := cb) B_e.out Zb10.out)
        refine ⟨K_f.out, ?_⟩
        go_frame
        refine h_done (by kernel_rfl) ?_
        go_upto_region 8 with fail
        refine with_worldT (fun W => Cb b9 61 ca W ∧ Cb b10 61 cb W ∧ Below w.heap.size w W) ⟨V9_f.out, V10_f.out, B_f.out⟩ fun W8 hW8 => ?_
        have B_8 := Lib.hid hW8.2.2
        have HN9 := Lib.hid (loc_not (S := S) (w := w) (W := W8) (b := b9) Zb9.out hW8.1.lt)
        have HN10 := Lib.hid (loc_not (S := S) (w := w) (W := W8) (b := b10) Zb10.out hW8.2.1.lt)
        have HS4 := Lib.hid (loc_sub (S := S) (w := w) (W := W8) HUP.out hW8.2.2.size)
        have S0 := Lib.hid (H.out.loc hW8.2.2)
        have P0 := Lib.hid (loc_up S w W8)
        generalize Loc S w W8 = S4 at *
        have C9 := Lib.hid hW8.1
        have C10 := Lib.hid hW8.2.1
        clear hW8 K_e K_f V9_e V10_e V9_f V10_f B_e B_f HT HTH HCUT
        go_upto_region 9 with (go_at_call 44; refine (drop_q (Tr.leaf n t x : TC) S0.out P0.out).mono ?_; rintro e v0 ⟨rfl, ss, oo⟩; have S1 := Lib.hid (ss.below (below_drew v0)); have O1 := Lib.hid (oo.below_r (below_drew v0)); have P1 := Lib.hid ((P0.out.off oo).below (below_drew (B := 0) v0)); have K_19 := Lib.hid (And.intro ((C9.out.off oo HN9.out).below (below_drew v0)) ((C10.out.off oo HN10.out).below (below_drew v0))); clear ss oo)
        refine h_start (S := fun W => Cb b9 61 ca W ∧ Cb b10 61 cb W) (by kernel_rfl) ?_
        refine h_val (i := 0) (v := .pointer (some ⟨tb, 0, none⟩)) rfl (by kernel_rfl) (by kernel_rfl) (by kernel_rfl) (fun _ _ _ h => h) (by rfl) (fun wz hS => ?_) K_19.out ?_
        · skip
          go_simp
        go_frame
        refine h_val (i := 1) (v := .agg ca) rfl (by kernel_rfl) (by kernel_rfl) (by kernel_rfl) (fun _ _ _ h => h) (by rfl) (fun wz hS => ?_) K_19.out ?_
        · skip
          exact x_load 61 (.tmp 9) rfl _ rfl _ _ _ _ hS.1 Try.underlying61 rfl (xinfo SA.out)
        go_frame
        refine h_val (i := 3) (v := .pointer (some ⟨tb, 0, none⟩)) rfl (by kernel_rfl) (by kernel_rfl) (by kernel_rfl) (fun _ _ _ h => h) (by rfl) (fun wz hS => ?_) K_19.out ?_
        · skip
          go_simp
        go_frame
        refine h_val (i := 4) (v := .agg cb) rfl (by kernel_rfl) (by kernel_rfl) (by kernel_rfl) (fun _ _ _ h => h) (by rfl) (fun wz hS => ?_) K_19.out ?_
        · skip
          exact x_load 61 (.tmp 10) rfl _ rfl _ _ _ _ hS.2 Try.underlying61 rfl (xinfo SB.out)
        go_frame
        refine h_all1 (i := 2) (by kernel_rfl) ?_
        refine o_call (f := 61) (args := #[.pointer (some ⟨tb, 0, none⟩), .agg ca]) rfl (by rfl) (by go_simp) ?_
        refine (HLA.out _ S4 _ _ S1.out P1.out (by have := HQ.out; have := LA.out; omega)).mono ?_
        rintro e v2 ⟨a, rfl, ea, ss, oo⟩
        have K_29 := Lib.hid (And.intro (K_19.out.1.off oo HN9.out) (K_19.out.2.off oo HN10.out))
        have S2 := Lib.hid ss
        have O2 := Lib.hid (O1.out.seq oo)
        have P2 := Lib.hid (P1.out.off oo)
        have Ea := Lib.hid ea
        clear ss oo ea
        refine ⟨_, rfl, K_29.out, ?_⟩
        go_frame
        refine h_all1 (i := 5) (by kernel_rfl) ?_
        refine o_call (f := 61) (args := #[.pointer (some ⟨tb, 0, none⟩), .agg cb]) rfl (by rfl) (by go_simp) ?_
        refine (HLB.out _ S4 _ _ S2.out P2.out (by have := HQ.out; have := LA.out; omega)).mono ?_
        rintro e v3 ⟨b, rfl, eb, ss, oo⟩
        have K_39 := Lib.hid (And.intro (K_29.out.1.off oo HN9.out) (K_29.out.2.off oo HN10.out))
        have S3 := Lib.hid ss
        have O3 := Lib.hid (O2.out.seq oo)
        have P3 := Lib.hid (P2.out.off oo)
        have Eb := Lib.hid eb
        clear ss oo eb
        refine ⟨_, rfl, K_39.out, ?_⟩
        go_frame
        refine h_val (i := 6) (v := .int .i64 a.id) rfl (by kernel_rfl) (by kernel_rfl) (by kernel_rfl) (fun _ _ _ h => h) (by rfl) (fun wz hS => ?_) K_39.out ?_
        · skip
          go_simp
        go_frame
        refine h_val (i := 7) (v := .int .i64 b.id) rfl (by kernel_rfl) (by kernel_rfl) (by kernel_rfl) (fun _ _ _ h => h) (by rfl) (fun wz hS => ?_) K_39.out ?_
        · skip
          go_simp
        go_frame
        refine h_done (by kernel_rfl) ?_
        go_wp2
        have h3 := S3.out.swap
        refine bodyPost_ret (by simp [results, Try.results43, go_sem]) rfl ⟨a, b, rfl, ⟨by rw [Ea.out]; exact EKA.out, by rw [Eb.out]; exact EKB.out, fun _ => by rw [Ea.out, Eb.out]; exact EKP.out⟩, ⟨h3.1.mono HS4.out, ?_⟩, Off.below_l B_8.out (O3.out.mono HS4.out)⟩
        have h5 := H.out.2
        rw [tot_cons] at h5
        have h6 := LC.out
        rw [tot_cons, tot_cons, Ea.out, Eb.out]
        omega
    · skip
      refine o_step rfl (by rfl) ?_
      refine wp_alloc_row 61 rfl czr xzero ?_
      have v11 := cb_new w1 61 czr
      have z11 : w.heap.size ≤ (w1).heap.size := B_1.out.size
      have y11 : tb < (w1).heap.size := K_1.out.1.lt
      have x11 : b8 < (w1).heap.size := K_1.out.2.lt
      have K_11 := Lib.hid (And.intro (K_1.out.1.alloc (.cells czr 61)) (K_1.out.2.alloc (.cells czr 61)))
      have T_11 := Lib.hid (T_1.out.below (below_alloc1 _ (.cells czr 61)))
      have B_11 := Lib.hid (B_1.out.alloc B_1.out.size (.cells czr 61))
      obtain ⟨b9, e7⟩ : ∃ b9, (w1).heap.size = b9 := ⟨_, rfl⟩
      rw [e7] at v11 z11 y11 x11 ⊢
      have V9_11 := Lib.hid v11
      have Zb9 := Lib.hid z11
      have Yb9 := Lib.hid y11
      have Xb9 := Lib.hid x11
      clear v11 e7 z11 y11 x11
      refine ⟨K_11.out, ?_⟩
      go_frame
      refine h_all2 (i := 9) (j := 14) (by kernel_rfl) ?_ ?_
      · skip
        refine o_call (f := 55) (args := #[.agg cx, .int .i64 (k : Nat)]) rfl (by rfl) (by go_simp) ?_
        refine (HCUT.out _).mono ?_
        rintro e w12 ⟨rfl, b12⟩
        have K_12 := Lib.hid (And.intro (K_11.out.1.below b12) (K_11.out.2.below b12))
        have T_12 := Lib.hid (T_11.out.below b12)
        have B_12 := Lib.hid (below_add B_11.out b12 B_11.out.size)
        have V9_12 := Lib.hid (V9_11.out.below b12)
        clear b12
        refine ⟨_, rfl, K_12.out, ?_⟩
        go_frame
        refine h_val (i := 10) (v := .tuple #[.agg ca, .agg cb]) rfl (by kernel_rfl) (by kernel_rfl) (by kernel_rfl) (fun _ _ _ h => h) (by rfl) (fun wz hS => ?_) K_12.out ?_
        · skip
          go_simp
        go_frame
        refine h_val (i := 11) (v := .agg ca) rfl (by kernel_rfl) (by kernel_rfl) (by kernel_rfl) (fun _ _ _ h => h) (by rfl) (fun wz hS => ?_) K_12.out ?_
        · skip
          go_simp
        go_frame
        refine h_val (i := 12) (v := .agg cb) rfl (by kernel_rfl) (by kernel_rfl) (by kernel_rfl) (fun _ _ _ h => h) (by rfl) (fun wz hS => ?_) K_12.out ?_
        · skip
          go_simp
        go_frame
        refine h_all1 (i := 14) (by kernel_rfl) ?_
        refine o_step rfl (by rfl) ?_
        refine wp_alloc_row 61 rfl czr xzero ?_
        have v13 := cb_new w12 61 czr
        have z13 : w.heap.size ≤ (w12).heap.size := B_12.out.size
        have y13 : tb < (w12).heap.size := K_12.out.1.lt
        have x13 : b8 < (w12).heap.size := K_12.out.2.lt
        have u13 : b9 < (w12).heap.size := V9_12.out.lt
        have K_13 := Lib.hid (And.intro (K_12.out.1.alloc (.cells czr 61)) (K_12.out.2.alloc (.cells czr 61)))
        have T_13 := Lib.hid (T_12.out.below (below_alloc1 _ (.cells czr 61)))
        have B_13 := Lib.hid (B_12.out.alloc B_12.out.size (.cells czr 61))
        have V9_13 := Lib.hid (V9_12.out.alloc (.cells czr 61))
        obtain ⟨b10, e7⟩ : ∃ b10, (w12).heap.size = b10 := ⟨_, rfl⟩
        rw [e7] at v13 z13 y13 x13 u13 ⊢
        have V10_13 := Lib.hid v13
        have Zb10 := Lib.hid z13
        have Yb10 := Lib.hid y13
        have Xb10 := Lib.hid x13
        have NE : Hid (b9 ≠ b10) := Lib.hid (by omega)
        clear u13
        clear v13 e7 z13 y13 x13
        refine ⟨K_13.out, ?_⟩
        go_frame
        refine h_all1 (i := 15) (by kernel_rfl) ?_
        refine o_step rfl (by rfl) ?_
        refine wp_store_row 61 (.tmp 9) (.tmp 43) rfl b9 ca rfl rfl _ _ V9_13.out (xinfo SA.out) (by rw [SA.out]; exact xz_size) OA1.out ?_
        have K_e := Lib.hid (And.intro (K_13.out.1.other (c := b9) (by have := Yb9.out; omega) ca) (K_13.out.2.other (c := b9) (by have := Xb9.out; omega) ca))
        have V9_e := Lib.hid (V9_13.out.set ca)
        have V10_e := Lib.hid (V10_13.out.other (c := b9) NE.out.symm ca)
        have B_e := Lib.hid (below_row (cs := ca) B_13.out Zb9.out)
        refine ⟨K_e.out, ?_⟩
        go_frame
        refine h_all1 (i := 16) (by kernel_rfl) ?_
        refine o_step rfl (by rfl) ?_
        refine wp_store_row 61 (.tmp 10) (.tmp 44) rfl b10 cb rfl rfl _ _ V10_e.out (xinfo SB.out) (by rw [SB.out]; exact xz_size) OB1.out ?_
        have K_f := Lib.hid (And.intro (K_e.out.1.other (c := b10) (by have := Yb10.out; omega) cb) (K_e.out.2.other (c := b10) (by have := Xb10.out; omega) cb))
        have V9_f := Lib.hid (V9_e.out.other (c := b10) NE.out cb)
        have V10_f := Lib.hid (V10_e.out.set cb)
        have B_f := Lib.hid (below_row (cs := cb) B_e.out Zb10.out)
        refine ⟨K_f.out, ?_⟩
        go_frame
        refine h_done (by kernel_rfl) ?_
        go_upto_region 8 with fail
        refine with_worldT (fun W => Cb b9 61 ca W ∧ Cb b10 61 cb W ∧ Below w.heap.size w W) ⟨V9_f.out, V10_f.out, B_f.out⟩ fun W8 hW8 => ?_
        have B_8 := Lib.hid hW8.2.2
        have HN9 := Lib.hid (loc_not (S := S) (w := w) (W := W8) (b := b9) Zb9.out hW8.1.lt)
        have HN10 := Lib.hid (loc_not (S := S) (w := w) (W := W8) (b := b10) Zb10.out hW8.2.1.lt)
        have HS4 := Lib.hid (loc_sub (S := S) (w := w) (W := W8) HUP.out hW8.2.2.size)
        have S0 := Lib.hid (H.out.loc hW8.2.2)
        have P0 := Lib.hid (loc_up S w W8)
        generalize Loc S w W8 = S4 at *
        have C9 := Lib.hid hW8.1
        have C10 := Lib.hid hW8.2.1
        clear hW8 K_e K_f V9_e V10_e V9_f V10_f B_e B_f HT HTH HCUT
        go_upto_region 9 with (go_at_call 44; refine (drop_q (Tr.leaf n t x : TC) S0.out P0.out).mono ?_; rintro e v0 ⟨rfl, ss, oo⟩; have S1 := Lib.hid (ss.below (below_drew v0)); have O1 := Lib.hid (oo.below_r (below_drew v0)); have P1 := Lib.hid ((P0.out.off oo).below (below_drew (B := 0) v0)); have K_19 := Lib.hid (And.intro ((C9.out.off oo HN9.out).below (below_drew v0)) ((C10.out.off oo HN10.out).below (below_drew v0))); clear ss oo)
        refine h_start (S := fun W => Cb b9 61 ca W ∧ Cb b10 61 cb W) (by kernel_rfl) ?_
        refine h_val (i := 0) (v := .pointer (some ⟨tb, 0, none⟩)) rfl (by kernel_rfl) (by kernel_rfl) (by kernel_rfl) (fun _ _ _ h => h) (by rfl) (fun wz hS => ?_) K_19.out ?_
        · skip
          go_simp
        go_frame
        refine h_val (i := 1) (v := .agg ca) rfl (by kernel_rfl) (by kernel_rfl) (by kernel_rfl) (fun _ _ _ h => h) (by rfl) (fun wz hS => ?_) K_19.out ?_
        · skip
          exact x_load 61 (.tmp 9) rfl _ rfl _ _ _ _ hS.1 Try.underlying61 rfl (xinfo SA.out)
        go_frame
        refine h_val (i := 3) (v := .pointer (some ⟨tb, 0, none⟩)) rfl (by kernel_rfl) (by kernel_rfl) (by kernel_rfl) (fun _ _ _ h => h) (by rfl) (fun wz hS => ?_) K_19.out ?_
        · skip
          go_simp
        go_frame
        refine h_val (i := 4) (v := .agg cb) rfl (by kernel_rfl) (by kernel_rfl) (by kernel_rfl) (fun _ _ _ h => h) (by rfl) (fun wz hS => ?_) K_19.out ?_
        · skip
          exact x_load 61 (.tmp 10) rfl _ rfl _ _ _ _ hS.2 Try.underlying61 rfl (xinfo SB.out)
        go_frame
        refine h_all1 (i := 2) (by kernel_rfl) ?_
        refine o_call (f := 61) (args := #[.pointer (some ⟨tb, 0, none⟩), .agg ca]) rfl (by rfl) (by go_simp) ?_
        refine (HLA.out _ S4 _ _ S1.out P1.out (by have := HQ.out; have := LA.out; omega)).mono ?_
        rintro e v2 ⟨a, rfl, ea, ss, oo⟩
        have K_29 := Lib.hid (And.intro (K_19.out.1.off oo HN9.out) (K_19.out.2.off oo HN10.out))
        have S2 := Lib.hid ss
        have O2 := Lib.hid (O1.out.seq oo)
        have P2 := Lib.hid (P1.out.off oo)
        have Ea := Lib.hid ea
        clear ss oo ea
        refine ⟨_, rfl, K_29.out, ?_⟩
        go_frame
        refine h_all1 (i := 5) (by kernel_rfl) ?_
        refine o_call (f := 61) (args := #[.pointer (some ⟨tb, 0, none⟩), .agg cb]) rfl (by rfl) (by go_simp) ?_
        refine (HLB.out _ S4 _ _ S2.out P2.out (by have := HQ.out; have := LA.out; omega)).mono ?_
        rintro e v3 ⟨b, rfl, eb, ss, oo⟩
        have K_39 := Lib.hid (And.intro (K_29.out.1.off oo HN9.out) (K_29.out.2.off oo HN10.out))
        have S3 := Lib.hid ss
        have O3 := Lib.hid (O2.out.seq oo)
        have P3 := Lib.hid (P2.out.off oo)
        have Eb := Lib.hid eb
        clear ss oo eb
        refine ⟨_, rfl, K_39.out, ?_⟩
        go_frame
        refine h_val (i := 6) (v := .int .i64 a.id) rfl (by kernel_rfl) (by kernel_rfl) (by kernel_rfl) (fun _ _ _ h => h) (by rfl) (fun wz hS => ?_) K_39.out ?_
        · skip
          go_simp
        go_frame
        refine h_val (i := 7) (v := .int .i64 b.id) rfl (by kernel_rfl) (by kernel_rfl) (by kernel_rfl) (fun _ _ _ h => h) (by rfl) (fun wz hS => ?_) K_39.out ?_
        · skip
          go_simp
        go_frame
        refine h_done (by kernel_rfl) ?_
        go_wp2
        have h3 := S3.out.swap
        refine bodyPost_ret (by simp [results, Try.results43, go_sem]) rfl ⟨a, b, rfl, ⟨by rw [Ea.out]; exact EKA.out, by rw [Eb.out]; exact EKB.out, fun _ => by rw [Ea.out, Eb.out]; exact EKP.out⟩, ⟨h3.1.mono HS4.out, ?_⟩, Off.below_l B_8.out (O3.out.mono HS4.out)⟩
        have h5 := H.out.2
        rw [tot_cons] at h5
        have h6 := LC.out
        rw [tot_cons, tot_cons, Ea.out, Eb.out]
        omega
      · skip
        refine o_step rfl (by rfl) ?_
        refine wp_alloc_row 61 rfl czr xzero ?_
        have v16 := cb_new (w1.alloc (.cells czr 61)) 61 czr
        have z16 : w.heap.size ≤ ((w1.alloc (.cells czr 61))).heap.size := B_11.out.size
        have y16 : tb < ((w1.alloc (.cells czr 61))).heap.size := K_11.out.1.lt
        have x16 : b8 < ((w1.alloc (.cells czr 61))).heap.size := K_11.out.2.lt
        have u16 : b9 < ((w1.alloc (.cells czr 61))).heap.size := V9_11.out.lt
        have K_16 := Lib.hid (And.intro (K_11.out.1.alloc (.cells czr 61)) (K_11.out.2.alloc (.cells czr 61)))
        have T_16 := Lib.hid (T_11.out.below (below_alloc1 _ (.cells czr 61)))
        have B_16 := Lib.hid (B_11.out.alloc B_11.out.size (.cells czr 61))
        have V9_16 := Lib.hid (V9_11.out.alloc (.cells czr 61))
        obtain ⟨b10, e7⟩ : ∃ b10, ((w1.alloc (.cells czr 61))).heap.size = b10 := ⟨_, rfl⟩
        rw [e7] at v16 z16 y16 x16 u16 ⊢
        have V10_16 := Lib.hid v16
        have Zb10 := Lib.hid z16
        have Yb10 := Lib.hid y16
        have Xb10 := Lib.hid x16
        have NE : Hid (b9 ≠ b10) := Lib.hid (by omega)
        clear u16
        clear v16 e7 z16 y16 x16
        refine ⟨K_16.out, ?_⟩
        go_frame
        refine h_all1 (i := 9) (by kernel_rfl) ?_
        refine o_call (f := 55) (args := #[.agg cx, .int .i64 (k : Nat)]) rfl (by rfl) (by go_simp) ?_
        refine (HCUT.out _).mono ?_
        rintro e w17 ⟨rfl, b17⟩
        have K_17 := Lib.hid (And.intro (K_16.out.1.below b17) (K_16.out.2.below b17))
        have T_17 := Lib.hid (T_16.out.below b17)
        have B_17 := Lib.hid (below_add B_16.out b17 B_16.out.size)
        have V9_17 := Lib.hid (V9_16.out.below b17)
        have V10_17 := Lib.hid (V10_16.out.below b17)
        clear b17
        refine ⟨_, rfl, K_17.out, ?_⟩
        go_frame
        refine h_val (i := 10) (v := .tuple #[.agg ca, .agg cb]) rfl (by kernel_rfl) (by kernel_rfl) (by kernel_rfl) (fun _ _ _ h => h) (by rfl) (fun wz hS => ?_) K_17.out ?_
        · skip
          go_simp
        go_frame
        refine h_val (i := 11) (v := .agg ca) rfl (by kernel_rfl) (by kernel_rfl) (by kernel_rfl) (fun _ _ _ h => h) (by rfl) (fun wz hS => ?_) K_17.out ?_
        · skip
          go_simp
        go_frame
        refine h_val (i := 12) (v := .agg cb) rfl (by kernel_rfl) (by kernel_rfl) (by kernel_rfl) (fun _ _ _ h => h) (by rfl) (fun wz hS => ?_) K_17.out ?_
        · skip
          go_simp
        go_frame
        refine h_all1 (i := 15) (by kernel_rfl) ?_
        refine o_step rfl (by rfl) ?_
        refine wp_store_row 61 (.tmp 9) (.tmp 43) rfl b9 ca rfl rfl _ _ V9_17.out (xinfo SA.out) (by rw [SA.out]; exact xz_size) OA1.out ?_
        have K_e := Lib.hid (And.intro (K_17.out.1.other (c := b9) (by have := Yb9.out; omega) ca) (K_17.out.2.other (c := b9) (by have := Xb9.out; omega) ca))
        have V9_e := Lib.hid (V9_17.out.set ca)
        have V10_e := Lib.hid (V10_17.out.other (c := b9) NE.out.symm ca)
        have B_e := Lib.hid (below_row (cs := ca) B_17.out Zb9.out)
        refine ⟨K_e.out, ?_⟩
        go_frame
        refine h_all1 (i := 16) (by kernel_rfl) ?_
        refine o_step rfl (by rfl) ?_
        refine wp_store_row 61 (.tmp 10) (.tmp 44) rfl b10 cb rfl rfl _ _ V10_e.out (xinfo SB.out) (by rw [SB.out]; exact xz_size) OB1.out ?_
        have K_f := Lib.hid (And.intro (K_e.out.1.other (c := b10) (by have := Yb10.out; omega) cb) (K_e.out.2.other (c := b10) (by have := Xb10.out; omega) cb))
        have V9_f := Lib.hid (V9_e.out.other (c := b10) NE.out cb)
        have V10_f := Lib.hid (V10_e.out.set cb)
        have B_f := Lib.hid (below_row (cs := cb) B_e.out Zb10.out)
        refine ⟨K_f.out, ?_⟩
        go_frame
        refine h_done (by kernel_rfl) ?_
        go_upto_region 8 with fail
        refine with_worldT (fun W => Cb b9 61 ca W ∧ Cb b10 61 cb W ∧ Below w.heap.size w W) ⟨V9_f.out, V10_f.out, B_f.out⟩ fun W8 hW8 => ?_
        have B_8 := Lib.hid hW8.2.2
        have HN9 := Lib.hid (loc_not (S := S) (w := w) (W := W8) (b := b9) Zb9.out hW8.1.lt)
        have HN10 := Lib.hid (loc_not (S := S) (w := w) (W := W8) (b := b10) Zb10.out hW8.2.1.lt)
        have HS4 := Lib.hid (loc_sub (S := S) (w := w) (W := W8) HUP.out hW8.2.2.size)
        have S0 := Lib.hid (H.out.loc hW8.2.2)
        have P0 := Lib.hid (loc_up S w W8)
        generalize Loc S w W8 = S4 at *
        have C9 := Lib.hid hW8.1
        have C10 := Lib.hid hW8.2.1
        clear hW8 K_e K_f V9_e V10_e V9_f V10_f B_e B_f HT HTH HCUT
        go_upto_region 9 with (go_at_call 44; refine (drop_q (Tr.leaf n t x : TC) S0.out P0.out).mono ?_; rintro e v0 ⟨rfl, ss, oo⟩; have S1 := Lib.hid (ss.below (below_drew v0)); have O1 := Lib.hid (oo.below_r (below_drew v0)); have P1 := Lib.hid ((P0.out.off oo).below (below_drew (B := 0) v0)); have K_19 := Lib.hid (And.intro ((C9.out.off oo HN9.out).below (below_drew v0)) ((C10.out.off oo HN10.out).below (below_drew v0))); clear ss oo)
        refine h_start (S := fun W => Cb b9 61 ca W ∧ Cb b10 61 cb W) (by kernel_rfl) ?_
        refine h_val (i := 0) (v := .pointer (some ⟨tb, 0, none⟩)) rfl (by kernel_rfl) (by kernel_rfl) (by kernel_rfl) (fun _ _ _ h => h) (by rfl) (fun wz hS => ?_) K_19.out ?_
        · skip
          go_simp
        go_frame
        refine h_val (i := 1) (v := .agg ca) rfl (by kernel_rfl) (by kernel_rfl) (by kernel_rfl) (fun _ _ _ h => h) (by rfl) (fun wz hS => ?_) K_19.out ?_
        · skip
          exact x_load 61 (.tmp 9) rfl _ rfl _ _ _ _ hS.1 Try.underlying61 rfl (xinfo SA.out)
        go_frame
        refine h_val (i := 3) (v := .pointer (some ⟨tb, 0, none⟩)) rfl (by kernel_rfl) (by kernel_rfl) (by kernel_rfl) (fun _ _ _ h => h) (by rfl) (fun wz hS => ?_) K_19.out ?_
        · skip
          go_simp
        go_frame
        refine h_val (i := 4) (v := .agg cb) rfl (by kernel_rfl) (by kernel_rfl) (by kernel_rfl) (fun _ _ _ h => h) (by rfl) (fun wz hS => ?_) K_19.out ?_
        · skip
          exact x_load 61 (.tmp 10) rfl _ rfl _ _ _ _ hS.2 Try.underlying61 rfl (xinfo SB.out)
        go_frame
        refine h_all1 (i := 2) (by kernel_rfl) ?_
        refine o_call (f := 61) (args := #[.pointer (some ⟨tb, 0, none⟩), .agg ca]) rfl (by rfl) (by go_simp) ?_
        refine (HLA.out _ S4 _ _ S1.out P1.out (by have := HQ.out; have := LA.out; omega)).mono ?_
        rintro e v2 ⟨a, rfl, ea, ss, oo⟩
        have K_29 := Lib.hid (And.intro (K_19.out.1.off oo HN9.out) (K_19.out.2.off oo HN10.out))
        have S2 := Lib.hid ss
        have O2 := Lib.hid (O1.out.seq oo)
        have P2 := Lib.hid (P1.out.off oo)
        have Ea := Lib.hid ea
        clear ss oo ea
        refine ⟨_, rfl, K_29.out, ?_⟩
        go_frame
        refine h_all1 (i := 5) (by kernel_rfl) ?_
        refine o_call (f := 61) (args := #[.pointer (some ⟨tb, 0, none⟩), .agg cb]) rfl (by rfl) (by go_simp) ?_
        refine (HLB.out _ S4 _ _ S2.out P2.out (by have := HQ.out; have := LA.out; omega)).mono ?_
        rintro e v3 ⟨b, rfl, eb, ss, oo⟩
        have K_39 := Lib.hid (And.intro (K_29.out.1.off oo HN9.out) (K_29.out.2.off oo HN10.out))
        have S3 := Lib.hid ss
        have O3 := Lib.hid (O2.out.seq oo)
        have P3 := Lib.hid (P2.out.off oo)
        have Eb := Lib.hid eb
        clear ss oo eb
        refine ⟨_, rfl, K_39.out, ?_⟩
        go_frame
        refine h_val (i := 6) (v := .int .i64 a.id) rfl (by kernel_rfl) (by kernel_rfl) (by kernel_rfl) (fun _ _ _ h => h) (by rfl) (fun wz hS => ?_) K_39.out ?_
        · skip
          go_simp
        go_frame
        refine h_val (i := 7) (v := .int .i64 b.id) rfl (by kernel_rfl) (by kernel_rfl) (by kernel_rfl) (fun _ _ _ h => h) (by rfl) (fun wz hS => ?_) K_39.out ?_
        · skip
          go_simp
        go_frame
        refine h_done (by kernel_rfl) ?_
        go_wp2
        have h3 := S3.out.swap
        refine bodyPost_ret (by simp [results, Try.results43, go_sem]) rfl ⟨a, b, rfl, ⟨by rw [Ea.out]; exact EKA.out, by rw [Eb.out]; exact EKB.out, fun _ => by rw [Ea.out, Eb.out]; exact EKP.out⟩, ⟨h3.1.mono HS4.out, ?_⟩, Off.below_l B_8.out (O3.out.mono HS4.out)⟩
        have h5 := H.out.2
        rw [tot_cons] at h5
        have h6 := LC.out
        rw [tot_cons, tot_cons, Ea.out, Eb.out]
        omega
    · skip
      refine o_step rfl (by rfl) ?_
      refine wp_alloc_row 61 rfl czr xzero ?_
      have v20 := cb_new w1 61 czr
      have z20 : w.heap.size ≤ (w1).heap.size := B_1.out.size
      have y20 : tb < (w1).heap.size := K_1.out.1.lt
      have x20 : b8 < (w1).heap.size := K_1.out.2.lt
      have K_20 := Lib.hid (And.intro (K_1.out.1.alloc (.cells czr 61)) (K_1.out.2.alloc (.cells czr 61)))
      have T_20 := Lib.hid (T_1.out.below (below_alloc1 _ (.cells czr 61)))
      have B_20 := Lib.hid (B_1.out.alloc B_1.out.size (.cells czr 61))
      obtain ⟨b10, e7⟩ : ∃ b10, (w1).heap.size = b10 := ⟨_, rfl⟩
      rw [e7] at v20 z20 y20 x20 ⊢
      have V10_20 := Lib.hid v20
      have Zb10 := Lib.hid z20
      have Yb10 := Lib.hid y20
      have Xb10 := Lib.hid x20
      clear v20 e7 z20 y20 x20
      refine ⟨K_20.out, ?_⟩
      go_frame
      refine h_all2 (i := 9) (j := 13) (by kernel_rfl) ?_ ?_
      · skip
        refine o_call (f := 55) (args := #[.agg cx, .int .i64 (k : Nat)]) rfl (by rfl) (by go_simp) ?_
        refine (HCUT.out _).mono ?_
        rintro e w21 ⟨rfl, b21⟩
        have K_21 := Lib.hid (And.intro (K_20.out.1.below b21) (K_20.out.2.below b21))
        have T_21 := Lib.hid (T_20.out.below b21)
        have B_21 := Lib.hid (below_add B_20.out b21 B_20.out.size)
        have V10_21 := Lib.hid (V10_20.out.below b21)
        clear b21
        refine ⟨_, rfl, K_21.out, ?_⟩
        go_frame
        refine h_val (i := 10) (v := .tuple #[.agg ca, .agg cb]) rfl (by kernel_rfl) (by kernel_rfl) (by kernel_rfl) (fun _ _ _ h => h) (by rfl) (fun wz hS => ?_) K_21.out ?_
        · skip
          go_simp
        go_frame
        refine h_val (i := 11) (v := .agg ca) rfl (by kernel_rfl) (by kernel_rfl) (by kernel_rfl) (fun _ _ _ h => h) (by rfl) (fun wz hS => ?_) K_21.out ?_
        · skip
          go_simp
        go_frame
        refine h_val (i := 12) (v := .agg cb) rfl (by kernel_rfl) (by kernel_rfl) (by kernel_rfl) (fun _ _ _ h => h) (by rfl) (fun wz hS => ?_) K_21.out ?_
        · skip
          go_simp
        go_frame
        refine h_all1 (i := 13) (by kernel_rfl) ?_
        refine o_step rfl (by rfl) ?_
        refine wp_alloc_row 61 rfl czr xzero ?_
        have v22 := cb_new w21 61 czr
        have z22 : w.heap.size ≤ (w21).heap.size := B_21.out.size
        have y22 : tb < (w21).heap.size := K_21.out.1.lt
        have x22 : b8 < (w21).heap.size := K_21.out.2.lt
        have u22 : b10 < (w21).heap.size := V10_21.out.lt
        have K_22 := Lib.hid (And.intro (K_21.out.1.alloc (.cells czr 61)) (K_21.out.2.alloc (.cells czr 61)))
        have T_22 := Lib.hid (T_21.out.below (below_alloc1 _ (.cells czr 61)))
        have B_22 := Lib.hid (B_21.out.alloc B_21.out.size (.cells czr 61))
        have V10_22 := Lib.hid (V10_21.out.alloc (.cells czr 61))
        obtain ⟨b9, e7⟩ : ∃ b9, (w21).heap.size = b9 := ⟨_, rfl⟩
        rw [e7] at v22 z22 y22 x22 u22 ⊢
        have V9_22 := Lib.hid v22
        have Zb9 := Lib.hid z22
        have Yb9 := Lib.hid y22
        have Xb9 := Lib.hid x22
        have NE : Hid (b9 ≠ b10) := Lib.hid (by omega)
        clear u22
        clear v22 e7 z22 y22 x22
        refine ⟨K_22.out, ?_⟩
        go_frame
        refine h_all1 (i := 15) (by kernel_rfl) ?_
        refine o_step rfl (by rfl) ?_
        refine wp_store_row 61 (.tmp 9) (.tmp 43) rfl b9 ca rfl rfl _ _ V9_22.out (xinfo SA.out) (by rw [SA.out]; exact xz_size) OA1.out ?_
        have K_e := Lib.hid (And.intro (K_22.out.1.other (c := b9) (by have := Yb9.out; omega) ca) (K_22.out.2.other (c := b9) (by have := Xb9.out; omega) ca))
        have V9_e := Lib.hid (V9_22.out.set ca)
        have V10_e := Lib.hid (V10_22.out.other (c := b9) NE.out.symm ca)
        have B_e := Lib.hid (below_row (cs := ca) B_22.out Zb9.out)
        refine ⟨K_e.out, ?_⟩
        go_frame
        refine h_all1 (i := 16) (by kernel_rfl) ?_
        refine o_step rfl (by rfl) ?_
        refine wp_store_row 61 (.tmp 10) (.tmp 44) rfl b10 cb rfl rfl _ _ V10_e.out (xinfo SB.out) (by rw [SB.out]; exact xz_size) OB1.out ?_
        have K_f := Lib.hid (And.intro (K_e.out.1.other (c := b10) (by have := Yb10.out; omega) cb) (K_e.out.2.other (c := b10) (by have := Xb10.out; omega) cb))
        have V9_f := Lib.hid (V9_e.out.other (c := b10) NE.out cb)
        have V10_f := Lib.hid (V10_e.out.set cb)
        have B_f := Lib.hid (below_row (cs := cb) B_e.out Zb10.out)
        refine ⟨K_f.out, ?_⟩
        go_frame
        refine h_done (by kernel_rfl) ?_
        go_upto_region 8 with fail
        refine with_worldT (fun W => Cb b9 61 ca W ∧ Cb b10 61 cb W ∧ Below w.heap.size w W) ⟨V9_f.out, V10_f.out, B_f.out⟩ fun W8 hW8 => ?_
        have B_8 := Lib.hid hW8.2.2
        have HN9 := Lib.hid (loc_not (S := S) (w := w) (W := W8) (b := b9) Zb9.out hW8.1.lt)
        have HN10 := Lib.hid (loc_not (S := S) (w := w) (W := W8) (b := b10) Zb10.out hW8.2.1.lt)
        have HS4 := Lib.hid (loc_sub (S := S) (w := w) (W := W8) HUP.out hW8.2.2.size)
        have S0 := Lib.hid (H.out.loc hW8.2.2)
        have P0 := Lib.hid (loc_up S w W8)
        generalize Loc S w W8 = S4 at *
        have C9 := Lib.hid hW8.1
        have C10 := Lib.hid hW8.2.1
        clear hW8 K_e K_f V9_e V10_e V9_f V10_f B_e B_f HT HTH HCUT
        go_upto_region 9 with (go_at_call 44; refine (drop_q (Tr.leaf n t x : TC) S0.out P0.out).mono ?_; rintro e v0 ⟨rfl, ss, oo⟩; have S1 := Lib.hid (ss.below (below_drew v0)); have O1 := Lib.hid (oo.below_r (below_drew v0)); have P1 := Lib.hid ((P0.out.off oo).below (below_drew (B := 0) v0)); have K_19 := Lib.hid (And.intro ((C9.out.off oo HN9.out).below (below_drew v0)) ((C10.out.off oo HN10.out).below (below_drew v0))); clear ss oo)
        refine h_start (S := fun W => Cb b9 61 ca W ∧ Cb b10 61 cb W) (by kernel_rfl) ?_
        refine h_val (i := 0) (v := .pointer (some ⟨tb, 0, none⟩)) rfl (by kernel_rfl) (by kernel_rfl) (by kernel_rfl) (fun _ _ _ h => h) (by rfl) (fun wz hS => ?_) K_19.out ?_
        · skip
          go_simp
        go_frame
        refine h_val (i := 1) (v := .agg ca) rfl (by kernel_rfl) (by kernel_rfl) (by kernel_rfl) (fun _ _ _ h => h) (by rfl) (fun wz hS => ?_) K_19.out ?_
        · skip
          exact x_load 61 (.tmp 9) rfl _ rfl _ _ _ _ hS.1 Try.underlying61 rfl (xinfo SA.out)
        go_frame
        refine h_val (i := 3) (v := .pointer (some ⟨tb, 0, none⟩)) rfl (by kernel_rfl) (by kernel_rfl) (by kernel_rfl) (fun _ _ _ h => h) (by rfl) (fun wz hS => ?_) K_19.out ?_
        · skip
          go_simp
        go_frame
        refine h_val (i := 4) (v := .agg cb) rfl (by kernel_rfl) (by kernel_rfl) (by kernel_rfl) (fun _ _ _ h => h) (by rfl) (fun wz hS => ?_) K_19.out ?_
        · skip
          exact x_load 61 (.tmp 10) rfl _ rfl _ _ _ _ hS.2 Try.underlying61 rfl (xinfo SB.out)
        go_frame
        refine h_all1 (i := 2) (by kernel_rfl) ?_
        refine o_call (f := 61) (args := #[.pointer (some ⟨tb, 0, none⟩), .agg ca]) rfl (by rfl) (by go_simp) ?_
        refine (HLA.out _ S4 _ _ S1.out P1.out (by have := HQ.out; have := LA.out; omega)).mono ?_
        rintro e v2 ⟨a, rfl, ea, ss, oo⟩
        have K_29 := Lib.hid (And.intro (K_19.out.1.off oo HN9.out) (K_19.out.2.off oo HN10.out))
        have S2 := Lib.hid ss
        have O2 := Lib.hid (O1.out.seq oo)
        have P2 := Lib.hid (P1.out.off oo)
        have Ea := Lib.hid ea
        clear ss oo ea
        refine ⟨_, rfl, K_29.out, ?_⟩
        go_frame
        refine h_all1 (i := 5) (by kernel_rfl) ?_
        refine o_call (f := 61) (args := #[.pointer (some ⟨tb, 0, none⟩), .agg cb]) rfl (by rfl) (by go_simp) ?_
        refine (HLB.out _ S4 _ _ S2.out P2.out (by have := HQ.out; have := LA.out; omega)).mono ?_
        rintro e v3 ⟨b, rfl, eb, ss, oo⟩
        have K_39 := Lib.hid (And.intro (K_29.out.1.off oo HN9.out) (K_29.out.2.off oo HN10.out))
        have S3 := Lib.hid ss
        have O3 := Lib.hid (O2.out.seq oo)
        have P3 := Lib.hid (P2.out.off oo)
        have Eb := Lib.hid eb
        clear ss oo eb
        refine ⟨_, rfl, K_39.out, ?_⟩
        go_frame
        refine h_val (i := 6) (v := .int .i64 a.id) rfl (by kernel_rfl) (by kernel_rfl) (by kernel_rfl) (fun _ _ _ h => h) (by rfl) (fun wz hS => ?_) K_39.out ?_
        · skip
          go_simp
        go_frame
        refine h_val (i := 7) (v := .int .i64 b.id) rfl (by kernel_rfl) (by kernel_rfl) (by kernel_rfl) (fun _ _ _ h => h) (by rfl) (fun wz hS => ?_) K_39.out ?_
        · skip
          go_simp
        go_frame
        refine h_done (by kernel_rfl) ?_
        go_wp2
        have h3 := S3.out.swap
        refine bodyPost_ret (by simp [results, Try.results43, go_sem]) rfl ⟨a, b, rfl, ⟨by rw [Ea.out]; exact EKA.out, by rw [Eb.out]; exact EKB.out, fun _ => by rw [Ea.out, Eb.out]; exact EKP.out⟩, ⟨h3.1.mono HS4.out, ?_⟩, Off.below_l B_8.out (O3.out.mono HS4.out)⟩
        have h5 := H.out.2
        rw [tot_cons] at h5
        have h6 := LC.out
        rw [tot_cons, tot_cons, Ea.out, Eb.out]
        omega
      · skip
        refine o_step rfl (by rfl) ?_
        refine wp_alloc_row 61 rfl czr xzero ?_
        have v25 := cb_new (w1.alloc (.cells czr 61)) 61 czr
        have z25 : w.heap.size ≤ ((w1.alloc (.cells czr 61))).heap.size := B_20.out.size
        have y25 : tb < ((w1.alloc (.cells czr 61))).heap.size := K_20.out.1.lt
        have x25 : b8 < ((w1.alloc (.cells czr 61))).heap.size := K_20.out.2.lt
        have u25 : b10 < ((w1.alloc (.cells czr 61))).heap.size := V10_20.out.lt
        have K_25 := Lib.hid (And.intro (K_20.out.1.alloc (.cells czr 61)) (K_20.out.2.alloc (.cells czr 61)))
        have T_25 := Lib.hid (T_20.out.below (below_alloc1 _ (.cells czr 61)))
        have B_25 := Lib.hid (B_20.out.alloc B_20.out.size (.cells czr 61))
        have V10_25 := Lib.hid (V10_20.out.alloc (.cells czr 61))
        obtain ⟨b9, e7⟩ : ∃ b9, ((w1.alloc (.cells czr 61))).heap.size = b9 := ⟨_, rfl⟩
        rw [e7] at v25 z25 y25 x25 u25 ⊢
        have V9_25 := Lib.hid v25
        have Zb9 := Lib.hid z25
        have Yb9 := Lib.hid y25
        have Xb9 := Lib.hid x25
        have NE : Hid (b9 ≠ b10) := Lib.hid (by omega)
        clear u25
        clear v25 e7 z25 y25 x25
        refine ⟨K_25.out, ?_⟩
        go_frame
        refine h_all1 (i := 9) (by kernel_rfl) ?_
        refine o_call (f := 55) (args := #[.agg cx, .int .i64 (k : Nat)]) rfl (by rfl) (by go_simp) ?_
        refine (HCUT.out _).mono ?_
        rintro e w26 ⟨rfl, b26⟩
        have K_26 := Lib.hid (And.intro (K_25.out.1.below b26) (K_25.out.2.below b26))
        have T_26 := Lib.hid (T_25.out.below b26)
        have B_26 := Lib.hid (below_add B_25.out b26 B_25.out.size)
        have V10_26 := Lib.hid (V10_25.out.below b26)
        have V9_26 := Lib.hid (V9_25.out.below b26)
        clear b26
        refine ⟨_, rfl, K_26.out, ?_⟩
        go_frame
        refine h_val (i := 10) (v := .tuple #[.agg ca, .agg cb]) rfl (by kernel_rfl) (by kernel_rfl) (by kernel_rfl) (fun _ _ _ h => h) (by rfl) (fun wz hS => ?_) K_26.out ?_
        · skip
          go_simp
        go_frame
        refine h_val (i := 11) (v := .agg ca) rfl (by kernel_rfl) (by kernel_rfl) (by kernel_rfl) (fun _ _ _ h => h) (by rfl) (fun wz hS => ?_) K_26.out ?_
        · skip
          go_simp
        go_frame
        refine h_val (i := 12) (v := .agg cb) rfl (by kernel_rfl) (by kernel_rfl) (by kernel_rfl) (fun _ _ _ h => h) (by rfl) (fun wz hS => ?_) K_26.out ?_
        · skip
          go_simp
        go_frame
        refine h_all1 (i := 15) (by kernel_rfl) ?_
        refine o_step rfl (by rfl) ?_
        refine wp_store_row 61 (.tmp 9) (.tmp 43) rfl b9 ca rfl rfl _ _ V9_26.out (xinfo SA.out) (by rw [SA.out]; exact xz_size) OA1.out ?_
        have K_e := Lib.hid (And.intro (K_26.out.1.other (c := b9) (by have := Yb9.out; omega) ca) (K_26.out.2.other (c := b9) (by have := Xb9.out; omega) ca))
        have V9_e := Lib.hid (V9_26.out.set ca)
        have V10_e := Lib.hid (V10_26.out.other (c := b9) NE.out.symm ca)
        have B_e := Lib.hid (below_row (cs := ca) B_26.out Zb9.out)
        refine ⟨K_e.out, ?_⟩
        go_frame
        refine h_all1 (i := 16) (by kernel_rfl) ?_
        refine o_step rfl (by rfl) ?_
        refine wp_store_row 61 (.tmp 10) (.tmp 44) rfl b10 cb rfl rfl _ _ V10_e.out (xinfo SB.out) (by rw [SB.out]; exact xz_size) OB1.out ?_
        have K_f := Lib.hid (And.intro (K_e.out.1.other (c := b10) (by have := Yb10.out; omega) cb) (K_e.out.2.other (c := b10) (by have := Xb10.out; omega) cb))
        have V9_f := Lib.hid (V9_e.out.other (c := b10) NE.out cb)
        have V10_f := Lib.hid (V10_e.out.set cb)
        have B_f := Lib.hid (below_row (cs := cb) B_e.out Zb10.out)
        refine ⟨K_f.out, ?_⟩
        go_frame
        refine h_done (by kernel_rfl) ?_
        go_upto_region 8 with fail
        refine with_worldT (fun W => Cb b9 61 ca W ∧ Cb b10 61 cb W ∧ Below w.heap.size w W) ⟨V9_f.out, V10_f.out, B_f.out⟩ fun W8 hW8 => ?_
        have B_8 := Lib.hid hW8.2.2
        have HN9 := Lib.hid (loc_not (S := S) (w := w) (W := W8) (b := b9) Zb9.out hW8.1.lt)
        have HN10 := Lib.hid (loc_not (S := S) (w := w) (W := W8) (b := b10) Zb10.out hW8.2.1.lt)
        have HS4 := Lib.hid (loc_sub (S := S) (w := w) (W := W8) HUP.out hW8.2.2.size)
        have S0 := Lib.hid (H.out.loc hW8.2.2)
        have P0 := Lib.hid (loc_up S w W8)
        generalize Loc S w W8 = S4 at *
        have C9 := Lib.hid hW8.1
        have C10 := Lib.hid hW8.2.1
        clear hW8 K_e K_f V9_e V10_e V9_f V10_f B_e B_f HT HTH HCUT
        go_upto_region 9 with (go_at_call 44; refine (drop_q (Tr.leaf n t x : TC) S0.out P0.out).mono ?_; rintro e v0 ⟨rfl, ss, oo⟩; have S1 := Lib.hid (ss.below (below_drew v0)); have O1 := Lib.hid (oo.below_r (below_drew v0)); have P1 := Lib.hid ((P0.out.off oo).below (below_drew (B := 0) v0)); have K_19 := Lib.hid (And.intro ((C9.out.off oo HN9.out).below (below_drew v0)) ((C10.out.off oo HN10.out).below (below_drew v0))); clear ss oo)
        refine h_start (S := fun W => Cb b9 61 ca W ∧ Cb b10 61 cb W) (by kernel_rfl) ?_
        refine h_val (i := 0) (v := .pointer (some ⟨tb, 0, none⟩)) rfl (by kernel_rfl) (by kernel_rfl) (by kernel_rfl) (fun _ _ _ h => h) (by rfl) (fun wz hS => ?_) K_19.out ?_
        · skip
          go_simp
        go_frame
        refine h_val (i := 1) (v := .agg ca) rfl (by kernel_rfl) (by kernel_rfl) (by kernel_rfl) (fun _ _ _ h => h) (by rfl) (fun wz hS => ?_) K_19.out ?_
        · skip
          exact x_load 61 (.tmp 9) rfl _ rfl _ _ _ _ hS.1 Try.underlying61 rfl (xinfo SA.out)
        go_frame
        refine h_val (i := 3) (v := .pointer (some ⟨tb, 0, none⟩)) rfl (by kernel_rfl) (by kernel_rfl) (by kernel_rfl) (fun _ _ _ h => h) (by rfl) (fun wz hS => ?_) K_19.out ?_
        · skip
          go_simp
        go_frame
        refine h_val (i := 4) (v := .agg cb) rfl (by kernel_rfl) (by kernel_rfl) (by kernel_rfl) (fun _ _ _ h => h) (by rfl) (fun wz hS => ?_) K_19.out ?_
        · skip
          exact x_load 61 (.tmp 10) rfl _ rfl _ _ _ _ hS.2 Try.underlying61 rfl (xinfo SB.out)
        go_frame
        refine h_all1 (i := 2) (by kernel_rfl) ?_
        refine o_call (f := 61) (args := #[.pointer (some ⟨tb, 0, none⟩), .agg ca]) rfl (by rfl) (by go_simp) ?_
        refine (HLA.out _ S4 _ _ S1.out P1.out (by have := HQ.out; have := LA.out; omega)).mono ?_
        rintro e v2 ⟨a, rfl, ea, ss, oo⟩
        have K_29 := Lib.hid (And.intro (K_19.out.1.off oo HN9.out) (K_19.out.2.off oo HN10.out))
        have S2 := Lib.hid ss
        have O2 := Lib.hid (O1.out.seq oo)
        have P2 := Lib.hid (P1.out.off oo)
        have Ea := Lib.hid ea
        clear ss oo ea
        refine ⟨_, rfl, K_29.out, ?_⟩
        go_frame
        refine h_all1 (i := 5) (by kernel_rfl) ?_
        refine o_call (f := 61) (args := #[.pointer (some ⟨tb, 0, none⟩), .agg cb]) rfl (by rfl) (by go_simp) ?_
        refine (HLB.out _ S4 _ _ S2.out P2.out (by have := HQ.out; have := LA.out; omega)).mono ?_
        rintro e v3 ⟨b, rfl, eb, ss, oo⟩
        have K_39 := Lib.hid (And.intro (K_29.out.1.off oo HN9.out) (K_29.out.2.off oo HN10.out))
        have S3 := Lib.hid ss
        have O3 := Lib.hid (O2.out.seq oo)
        have P3 := Lib.hid (P2.out.off oo)
        have Eb := Lib.hid eb
        clear ss oo eb
        refine ⟨_, rfl, K_39.out, ?_⟩
        go_frame
        refine h_val (i := 6) (v := .int .i64 a.id) rfl (by kernel_rfl) (by kernel_rfl) (by kernel_rfl) (fun _ _ _ h => h) (by rfl) (fun wz hS => ?_) K_39.out ?_
        · skip
          go_simp
        go_frame
        refine h_val (i := 7) (v := .int .i64 b.id) rfl (by kernel_rfl) (by kernel_rfl) (by kernel_rfl) (fun _ _ _ h => h) (by rfl) (fun wz hS => ?_) K_39.out ?_
        · skip
          go_simp
        go_frame
        refine h_done (by kernel_rfl) ?_
        go_wp2
        have h3 := S3.out.swap
        refine bodyPost_ret (by simp [results, Try.results43, go_sem]) rfl ⟨a, b, rfl, ⟨by rw [Ea.out]; exact EKA.out, by rw [Eb.out]; exact EKB.out, fun _ => by rw [Ea.out, Eb.out]; exact EKP.out⟩, ⟨h3.1.mono HS4.out, ?_⟩, Off.below_l B_8.out (O3.out.mono HS4.out)⟩
        have h5 := H.out.2
        rw [tot_cons] at h5
        have h6 := LC.out
        rw [tot_cons, tot_cons, Ea.out, Eb.out]
        omega
  · skip
    refine o_step rfl (by rfl) ?_
    refine wp_alloc_row 61 rfl czr xzero ?_
    have v29 := cb_new W0.drew 61 czr
    have z29 : w.heap.size ≤ (W0.drew).heap.size := B_0.out.size
    have y29 : tb < (W0.drew).heap.size := K_0.out.1.lt
    have x29 : b8 < (W0.drew).heap.size := K_0.out.2.lt
    have K_29 := Lib.hid (And.intro (K_0.out.1.alloc (.cells czr 61)) (K_0.out.2.alloc (.cells czr 61)))
    have T_29 := Lib.hid (T_0.out.below (below_alloc1 _ (.cells czr 61)))
    have B_29 := Lib.hid (B_0.out.alloc B_0.out.size (.cells czr 61))
    obtain ⟨b9, e7⟩ : ∃ b9, (W0.drew).heap.size = b9 := ⟨_, rfl⟩
    rw [e7] at v29 z29 y29 x29 ⊢
    have V9_29 := Lib.hid v29
    have Zb9 := Lib.hid z29
    have Yb9 := Lib.hid y29
    have Xb9 := Lib.hid x29
    clear v29 e7 z29 y29 x29
    refine ⟨K_29.out, ?_⟩
    go_frame
    refine h_all2 (i := 7) (j := 14) (by kernel_rfl) ?_ ?_
    · skip
      refine o_call (f := 59) (args := #[.pointer (some ⟨tb, 0, none⟩), ndv M]) rfl (by rfl) (by go_simp) ?_
      refine (HTH.out _ T_29.out).mono ?_
      rintro e w30 ⟨rfl, b30⟩
      have K_30 := Lib.hid (And.intro (K_29.out.1.below b30) (K_29.out.2.below b30))
      have T_30 := Lib.hid (T_29.out.below b30)
      have B_30 := Lib.hid (below_add B_29.out b30 B_29.out.size)
      have V9_30 := Lib.hid (V9_29.out.below b30)
      clear b30
      refine ⟨_, rfl, K_30.out, ?_⟩
      go_frame
      refine h_all2 (i := 9) (j := 14) (by kernel_rfl) ?_ ?_
      · skip
        refine o_call (f := 55) (args := #[.agg cx, .int .i64 (k : Nat)]) rfl (by rfl) (by go_simp) ?_
        refine (HCUT.out _).mono ?_
        rintro e w31 ⟨rfl, b31⟩
        have K_31 := Lib.hid (And.intro (K_30.out.1.below b31) (K_30.out.2.below b31))
        have T_31 := Lib.hid (T_30.out.below b31)
        have B_31 := Lib.hid (below_add B_30.out b31 B_30.out.size)
        have V9_31 := Lib.hid (V9_30.out.below b31)
        clear b31
        refine ⟨_, rfl, K_31.out, ?_⟩
        go_frame
        refine h_val (i := 10) (v := .tuple #[.agg ca, .agg cb]) rfl (by kernel_rfl) (by kernel_rfl) (by kernel_rfl) (fun _ _ _ h => h) (by rfl) (fun wz hS => ?_) K_31.out ?_
        · skip
          go_simp
        go_frame
        refine h_val (i := 11) (v := .agg ca) rfl (by kernel_rfl) (by kernel_rfl) (by kernel_rfl) (fun _ _ _ h => h) (by rfl) (fun wz hS => ?_) K_31.out ?_
        · skip
          go_simp
        go_frame
        refine h_val (i := 12) (v := .agg cb) rfl (by kernel_rfl) (by kernel_rfl) (by kernel_rfl) (fun _ _ _ h => h) (by rfl) (fun wz hS => ?_) K_31.out ?_
        · skip
          go_simp
        go_frame
        refine h_all1 (i := 14) (by kernel_rfl) ?_
        refine o_step rfl (by rfl) ?_
        refine wp_alloc_row 61 rfl czr xzero ?_
        have v32 := cb_new w31 61 czr
        have z32 : w.heap.size ≤ (w31).heap.size := B_31.out.size
        have y32 : tb < (w31).heap.size := K_31.out.1.lt
        have x32 : b8 < (w31).heap.size := K_31.out.2.lt
        have u32 : b9 < (w31).heap.size := V9_31.out.lt
        have K_32 := Lib.hid (And.intro (K_31.out.1.alloc (.cells czr 61)) (K_31.out.2.alloc (.cells czr 61)))
        have T_32 := Lib.hid (T_31.out.below (below_alloc1 _ (.cells czr 61)))
        have B_32 := Lib.hid (B_31.out.alloc B_31.out.size (.cells czr 61))
        have V9_32 := Lib.hid (V9_31.out.alloc (.cells czr 61))
        obtain ⟨b10, e7⟩ : ∃ b10, (w31).heap.size = b10 := ⟨_, rfl⟩
        rw [e7] at v32 z32 y32 x32 u32 ⊢
        have V10_32 := Lib.hid v32
        have Zb10 := Lib.hid z32
        have Yb10 := Lib.hid y32
        have Xb10 := Lib.hid x32
        have NE : Hid (b9 ≠ b10) := Lib.hid (by omega)
        clear u32
        clear v32 e7 z32 y32 x32
        refine ⟨K_32.out, ?_⟩
        go_frame
        refine h_all1 (i := 15) (by kernel_rfl) ?_
        refine o_step rfl (by rfl) ?_
        refine wp_store_row 61 (.tmp 9) (.tmp 43) rfl b9 ca rfl rfl _ _ V9_32.out (xinfo SA.out) (by rw [SA.out]; exact xz_size) OA1.out ?_
        have K_e := Lib.hid (And.intro (K_32.out.1.other (c := b9) (by have := Yb9.out; omega) ca) (K_32.out.2.other (c := b9) (by have := Xb9.out; omega) ca))
        have V9_e := Lib.hid (V9_32.out.set ca)
        have V10_e := Lib.hid (V10_32.out.other (c := b9) NE.out.symm ca)
        have B_e := Lib.hid (below_row (cs := ca) B_32.out Zb9.out)
        refine ⟨K_e.out, ?_⟩
        go_frame
        refine h_all1 (i := 16) (by kernel_rfl) ?_
        refine o_step rfl (by rfl) ?_
        refine wp_store_row 61 (.tmp 10) (.tmp 44) rfl b10 cb rfl rfl _ _ V10_e.out (xinfo SB.out) (by rw [SB.out]; exact xz_size) OB1.out ?_
        have K_f := Lib.hid (And.intro (K_e.out.1.other (c := b10) (by have := Yb10.out; omega) cb) (K_e.out.2.other (c := b10) (by have := Xb10.out; omega) cb))
        have V9_f := Lib.hid (V9_e.out.other (c := b10) NE.out cb)
        have V10_f := Lib.hid (V10_e.out.set cb)
        have B_f := Lib.hid (below_row (cs := cb) B_e.out Zb10.out)
        refine ⟨K_f.out, ?_⟩
        go_frame
        refine h_done (by kernel_rfl) ?_
        go_upto_region 8 with fail
        refine with_worldT (fun W => Cb b9 61 ca W ∧ Cb b10 61 cb W ∧ Below w.heap.size w W) ⟨V9_f.out, V10_f.out, B_f.out⟩ fun W8 hW8 => ?_
        have B_8 := Lib.hid hW8.2.2
        have HN9 := Lib.hid (loc_not (S := S) (w := w) (W := W8) (b := b9) Zb9.out hW8.1.lt)
        have HN10 := Lib.hid (loc_not (S := S) (w := w) (W := W8) (b := b10) Zb10.out hW8.2.1.lt)
        have HS4 := Lib.hid (loc_sub (S := S) (w := w) (W := W8) HUP.out hW8.2.2.size)
        have S0 := Lib.hid (H.out.loc hW8.2.2)
        have P0 := Lib.hid (loc_up S w W8)
        generalize Loc S w W8 = S4 at *
        have C9 := Lib.hid hW8.1
        have C10 := Lib.hid hW8.2.1
        clear hW8 K_e K_f V9_e V10_e V9_f V10_f B_e B_f HT HTH HCUT
        go_upto_region 9 with (go_at_call 44; refine (drop_q (Tr.leaf n t x : TC) S0.out P0.out).mono ?_; rintro e v0 ⟨rfl, ss, oo⟩; have S1 := Lib.hid (ss.below (below_drew v0)); have O1 := Lib.hid (oo.below_r (below_drew v0)); have P1 := Lib.hid ((P0.out.off oo).below (below_drew (B := 0) v0)); have K_19 := Lib.hid (And.intro ((C9.out.off oo HN9.out).below (below_drew v0)) ((C10.out.off oo HN10.out).below (below_drew v0))); clear ss oo)
        refine h_start (S := fun W => Cb b9 61 ca W ∧ Cb b10 61 cb W) (by kernel_rfl) ?_
        refine h_val (i := 0) (v := .pointer (some ⟨tb, 0, none⟩)) rfl (by kernel_rfl) (by kernel_rfl) (by kernel_rfl) (fun _ _ _ h => h) (by rfl) (fun wz hS => ?_) K_19.out ?_
        · skip
          go_simp
        go_frame
        refine h_val (i := 1) (v := .agg ca) rfl (by kernel_rfl) (by kernel_rfl) (by kernel_rfl) (fun _ _ _ h => h) (by rfl) (fun wz hS => ?_) K_19.out ?_
        · skip
          exact x_load 61 (.tmp 9) rfl _ rfl _ _ _ _ hS.1 Try.underlying61 rfl (xinfo SA.out)
        go_frame
        refine h_val (i := 3) (v := .pointer (some ⟨tb, 0, none⟩)) rfl (by kernel_rfl) (by kernel_rfl) (by kernel_rfl) (fun _ _ _ h => h) (by rfl) (fun wz hS => ?_) K_19.out ?_
        · skip
          go_simp
        go_frame
        refine h_val (i := 4) (v := .agg cb) rfl (by kernel_rfl) (by kernel_rfl) (by kernel_rfl) (fun _ _ _ h => h) (by rfl) (fun wz hS => ?_) K_19.out ?_
        · skip
          exact x_load 61 (.tmp 10) rfl _ rfl _ _ _ _ hS.2 Try.underlying61 rfl (xinfo SB.out)
        go_frame
        refine h_all1 (i := 2) (by kernel_rfl) ?_
        refine o_call (f := 61) (args := #[.pointer (some ⟨tb, 0, none⟩), .agg ca]) rfl (by rfl) (by go_simp) ?_
        refine (HLA.out _ S4 _ _ S1.out P1.out (by have := HQ.out; have := LA.out; omega)).mono ?_
        rintro e v2 ⟨a, rfl, ea, ss, oo⟩
        have K_29 := Lib.hid (And.intro (K_19.out.1.off oo HN9.out) (K_19.out.2.off oo HN10.out))
        have S2 := Lib.hid ss
        have O2 := Lib.hid (O1.out.seq oo)
        have P2 := Lib.hid (P1.out.off oo)
        have Ea := Lib.hid ea
        clear ss oo ea
        refine ⟨_, rfl, K_29.out, ?_⟩
        go_frame
        refine h_all1 (i := 5) (by kernel_rfl) ?_
        refine o_call (f := 61) (args := #[.pointer (some ⟨tb, 0, none⟩), .agg cb]) rfl (by rfl) (by go_simp) ?_
        refine (HLB.out _ S4 _ _ S2.out P2.out (by have := HQ.out; have := LA.out; omega)).mono ?_
        rintro e v3 ⟨b, rfl, eb, ss, oo⟩
        have K_39 := Lib.hid (And.intro (K_29.out.1.off oo HN9.out) (K_29.out.2.off oo HN10.out))
        have S3 := Lib.hid ss
        have O3 := Lib.hid (O2.out.seq oo)
        have P3 := Lib.hid (P2.out.off oo)
        have Eb := Lib.hid eb
        clear ss oo eb
        refine ⟨_, rfl, K_39.out, ?_⟩
        go_frame
        refine h_val (i := 6) (v := .int .i64 a.id) rfl (by kernel_rfl) (by kernel_rfl) (by kernel_rfl) (fun _ _ _ h => h) (by rfl) (fun wz hS => ?_) K_39.out ?_
        · skip
          go_simp
        go_frame
        refine h_val (i := 7) (v := .int .i64 b.id) rfl (by kernel_rfl) (by kernel_rfl) (by kernel_rfl) (fun _ _ _ h => h) (by rfl) (fun wz hS => ?_) K_39.out ?_
        · skip
          go_simp
        go_frame
        refine h_done (by kernel_rfl) ?_
        go_wp2
        have h3 := S3.out.swap
        refine bodyPost_ret (by simp [results, Try.results43, go_sem]) rfl ⟨a, b, rfl, ⟨by rw [Ea.out]; exact EKA.out, by rw [Eb.out]; exact EKB.out, fun _ => by rw [Ea.out, Eb.out]; exact EKP.out⟩, ⟨h3.1.mono HS4.out, ?_⟩, Off.below_l B_8.out (O3.out.mono HS4.out)⟩
        have h5 := H.out.2
        rw [tot_cons] at h5
        have h6 := LC.out
        rw [tot_cons, tot_cons, Ea.out, Eb.out]
        omega
      · skip
        refine o_step rfl (by rfl) ?_
        refine wp_alloc_row 61 rfl czr xzero ?_
        have v35 := cb_new w30 61 czr
        have z35 : w.heap.size ≤ (w30).heap.size := B_30.out.size
        have y35 : tb < (w30).heap.size := K_30.out.1.lt
        have x35 : b8 < (w30).heap.size := K_30.out.2.lt
        have u35 : b9 < (w30).heap.size := V9_30.out.lt
        have K_35 := Lib.hid (And.intro (K_30.out.1.alloc (.cells czr 61)) (K_30.out.2.alloc (.cells czr 61)))
        have T_35 := Lib.hid (T_30.out.below (below_alloc1 _ (.cells czr 61)))
        have B_35 := Lib.hid (B_30.out.alloc B_30.out.size (.cells czr 61))
        have V9_35 := Lib.hid (V9_30.out.alloc (.cells czr 61))
        obtain ⟨b10, e7⟩ : ∃ b10, (w30).heap.size = b10 := ⟨_, rfl⟩
        rw [e7] at v35 z35 y35 x35 u35 ⊢
        have V10_35 := Lib.hid v35
        have Zb10 := Lib.hid z35
        have Yb10 := Lib.hid y35
        have Xb10 := Lib.hid x35
        have NE : Hid (b9 ≠ b10) := Lib.hid (by omega)
        clear u35
        clear v35 e7 z35 y35 x35
        refine ⟨K_35.out, ?_⟩
        go_frame
        refine h_all1 (i := 9) (by kernel_rfl) ?_
        refine o_call (f := 55) (args := #[.agg cx, .int .i64 (k : Nat)]) rfl (by rfl) (by go_simp) ?_
        refine (HCUT.out _).mono ?_
        rintro e w36 ⟨rfl, b36⟩
        have K_36 := Lib.hid (And.intro (K_35.out.1.below b36) (K_35.out.2.below b36))
        have T_36 := Lib.hid (T_35.out.below b36)
        have B_36 := Lib.hid (below_add B_35.out b36 B_35.out.size)
        have V9_36 := Lib.hid (V9_35.out.below b36)
        have V10_36 := Lib.hid (V10_35.out.below b36)
        clear b36
        refine ⟨_, rfl, K_36.out, ?_⟩
        go_frame
        refine h_val (i := 10) (v := .tuple #[.agg ca, .agg cb]) rfl (by kernel_rfl) (by kernel_rfl) (by kernel_rfl) (fun _ _ _ h => h) (by rfl) (fun wz hS => ?_) K_36.out ?_
        · skip
          go_simp
        go_frame
        refine h_val (i := 11) (v := .agg ca) rfl (by kernel_rfl) (by kernel_rfl) (by kernel_rfl) (fun _ _ _ h => h) (by rfl) (fun wz hS => ?_) K_36.out ?_
        · skip
          go_simp
        go_frame
        refine h_val (i := 12) (v := .agg cb) rfl (by kernel_rfl) (by kernel_rfl) (by kernel_rfl) (fun _ _ _ h => h) (by rfl) (fun wz hS => ?_) K_36.out ?_
        · skip
          go_simp
        go_frame
        refine h_all1 (i := 15) (by kernel_rfl) ?_
        refine o_step rfl (by rfl) ?_
        refine wp_store_row 61 (.tmp 9) (.tmp 43) rfl b9 ca rfl rfl _ _ V9_36.out (xinfo SA.out) (by rw [SA.out]; exact xz_size) OA1.out ?_
        have K_e := Lib.hid (And.intro (K_36.out.1.other (c := b9) (by have := Yb9.out; omega) ca) (K_36.out.2.other (c := b9) (by have := Xb9.out; omega) ca))
        have V9_e := Lib.hid (V9_36.out.set ca)
        have V10_e := Lib.hid (V10_36.out.other (c := b9) NE.out.symm ca)
        have B_e := Lib.hid (below_row (cs := ca) B_36.out Zb9.out)
        refine ⟨K_e.out, ?_⟩
        go_frame
        refine h_all1 (i := 16) (by kernel_rfl) ?_
        refine o_step rfl (by rfl) ?_
        refine wp_store_row 61 (.tmp 10) (.tmp 44) rfl b10 cb rfl rfl _ _ V10_e.out (xinfo SB.out) (by rw [SB.out]; exact xz_size) OB1.out ?_
        have K_f := Lib.hid (And.intro (K_e.out.1.other (c := b10) (by have := Yb10.out; omega) cb) (K_e.out.2.other (c := b10) (by have := Xb10.out; omega) cb))
        have V9_f := Lib.hid (V9_e.out.other (c := b10) NE.out cb)
        have V10_f := Lib.hid (V10_e.out.set cb)
        have B_f := Lib.hid (below_row (cs := cb) B_e.out Zb10.out)
        refine ⟨K_f.out, ?_⟩
        go_frame
        refine h_done (by kernel_rfl) ?_
        go_upto_region 8 with fail
        refine with_worldT (fun W => Cb b9 61 ca W ∧ Cb b10 61 cb W ∧ Below w.heap.size w W) ⟨V9_f.out, V10_f.out, B_f.out⟩ fun W8 hW8 => ?_
        have B_8 := Lib.hid hW8.2.2
        have HN9 := Lib.hid (loc_not (S := S) (w := w) (W := W8) (b := b9) Zb9.out hW8.1.lt)
        have HN10 := Lib.hid (loc_not (S := S) (w := w) (W := W8) (b := b10) Zb10.out hW8.2.1.lt)
        have HS4 := Lib.hid (loc_sub (S := S) (w := w) (W := W8) HUP.out hW8.2.2.size)
        have S0 := Lib.hid (H.out.loc hW8.2.2)
        have P0 := Lib.hid (loc_up S w W8)
        generalize Loc S w W8 = S4 at *
        have C9 := Lib.hid hW8.1
        have C10 := Lib.hid hW8.2.1
        clear hW8 K_e K_f V9_e V10_e V9_f V10_f B_e B_f HT HTH HCUT
        go_upto_region 9 with (go_at_call 44; refine (drop_q (Tr.leaf n t x : TC) S0.out P0.out).mono ?_; rintro e v0 ⟨rfl, ss, oo⟩; have S1 := Lib.hid (ss.below (below_drew v0)); have O1 := Lib.hid (oo.below_r (below_drew v0)); have P1 := Lib.hid ((P0.out.off oo).below (below_drew (B := 0) v0)); have K_19 := Lib.hid (And.intro ((C9.out.off oo HN9.out).below (below_drew v0)) ((C10.out.off oo HN10.out).below (below_drew v0))); clear ss oo)
        refine h_start (S := fun W => Cb b9 61 ca W ∧ Cb b10 61 cb W) (by kernel_rfl) ?_
        refine h_val (i := 0) (v := .pointer (some ⟨tb, 0, none⟩)) rfl (by kernel_rfl) (by kernel_rfl) (by kernel_rfl) (fun _ _ _ h => h) (by rfl) (fun wz hS => ?_) K_19.out ?_
        · skip
          go_simp
        go_frame
        refine h_val (i := 1) (v := .agg ca) rfl (by kernel_rfl) (by kernel_rfl) (by kernel_rfl) (fun _ _ _ h => h) (by rfl) (fun wz hS => ?_) K_19.out ?_
        · skip
          exact x_load 61 (.tmp 9) rfl _ rfl _ _ _ _ hS.1 Try.underlying61 rfl (xinfo SA.out)
        go_frame
        refine h_val (i := 3) (v := .pointer (some ⟨tb, 0, none⟩)) rfl (by kernel_rfl) (by kernel_rfl) (by kernel_rfl) (fun _ _ _ h => h) (by rfl) (fun wz hS => ?_) K_19.out ?_
        · skip
          go_simp
        go_frame
        refine h_val (i := 4) (v := .agg cb) rfl (by kernel_rfl) (by kernel_rfl) (by kernel_rfl) (fun _ _ _ h => h) (by rfl) (fun wz hS => ?_) K_19.out ?_
        · skip
          exact x_load 61 (.tmp 10) rfl _ rfl _ _ _ _ hS.2 Try.underlying61 rfl (xinfo SB.out)
        go_frame
        refine h_all1 (i := 2) (by kernel_rfl) ?_
        refine o_call (f := 61) (args := #[.pointer (some ⟨tb, 0, none⟩), .agg ca]) rfl (by rfl) (by go_simp) ?_
        refine (HLA.out _ S4 _ _ S1.out P1.out (by have := HQ.out; have := LA.out; omega)).mono ?_
        rintro e v2 ⟨a, rfl, ea, ss, oo⟩
        have K_29 := Lib.hid (And.intro (K_19.out.1.off oo HN9.out) (K_19.out.2.off oo HN10.out))
        have S2 := Lib.hid ss
        have O2 := Lib.hid (O1.out.seq oo)
        have P2 := Lib.hid (P1.out.off oo)
        have Ea := Lib.hid ea
        clear ss oo ea
        refine ⟨_, rfl, K_29.out, ?_⟩
        go_frame
        refine h_all1 (i := 5) (by kernel_rfl) ?_
        refine o_call (f := 61) (args := #[.pointer (some ⟨tb, 0, none⟩), .agg cb]) rfl (by rfl) (by go_simp) ?_
        refine (HLB.out _ S4 _ _ S2.out P2.out (by have := HQ.out; have := LA.out; omega)).mono ?_
        rintro e v3 ⟨b, rfl, eb, ss, oo⟩
        have K_39 := Lib.hid (And.intro (K_29.out.1.off oo HN9.out) (K_29.out.2.off oo HN10.out))
        have S3 := Lib.hid ss
        have O3 := Lib.hid (O2.out.seq oo)
        have P3 := Lib.hid (P2.out.off oo)
        have Eb := Lib.hid eb
        clear ss oo eb
        refine ⟨_, rfl, K_39.out, ?_⟩
        go_frame
        refine h_val (i := 6) (v := .int .i64 a.id) rfl (by kernel_rfl) (by kernel_rfl) (by kernel_rfl) (fun _ _ _ h => h) (by rfl) (fun wz hS => ?_) K_39.out ?_
        · skip
          go_simp
        go_frame
        refine h_val (i := 7) (v := .int .i64 b.id) rfl (by kernel_rfl) (by kernel_rfl) (by kernel_rfl) (fun _ _ _ h => h) (by rfl) (fun wz hS => ?_) K_39.out ?_
        · skip
          go_simp
        go_frame
        refine h_done (by kernel_rfl) ?_
        go_wp2
        have h3 := S3.out.swap
        refine bodyPost_ret (by simp [results, Try.results43, go_sem]) rfl ⟨a, b, rfl, ⟨by rw [Ea.out]; exact EKA.out, by rw [Eb.out]; exact EKB.out, fun _ => by rw [Ea.out, Eb.out]; exact EKP.out⟩, ⟨h3.1.mono HS4.out, ?_⟩, Off.below_l B_8.out (O3.out.mono HS4.out)⟩
        have h5 := H.out.2
        rw [tot_cons] at h5
        have h6 := LC.out
        rw [tot_cons, tot_cons, Ea.out, Eb.out]
        omega
    · skip
      refine o_step rfl (by rfl) ?_
      refine wp_alloc_row 61 rfl czr xzero ?_
      have v39 := cb_new (W0.drew.alloc (.cells czr 61)) 61 czr
      have z39 : w.heap.size ≤ ((W0.drew.alloc (.cells czr 61))).heap.size := B_29.out.size
      have y39 : tb < ((W0.drew.alloc (.cells czr 61))).heap.size := K_29.out.1.lt
      have x39 : b8 < ((W0.drew.alloc (.cells czr 61))).heap.size := K_29.out.2.lt
      have u39 : b9 < ((W0.drew.alloc (.cells czr 61))).heap.size := V9_29.out.lt
      have K_39 := Lib.hid (And.intro (K_29.out.1.alloc (.cells czr 61)) (K_29.out.2.alloc (.cells czr 61)))
      have T_39 := Lib.hid (T_29.out.below (below_alloc1 _ (.cells czr 61)))
      have B_39 := Lib.hid (B_29.out.alloc B_29.out.size (.cells czr 61))
      have V9_39 := Lib.hid (V9_29.out.alloc (.cells czr 61))
      obtain ⟨b10, e7⟩ : ∃ b10, ((W0.drew.alloc (.cells czr 61))).heap.size = b10 := ⟨_, rfl⟩
      rw [e7] at v39 z39 y39 x39 u39 ⊢
      have V10_39 := Lib.hid v39
      have Zb10 := Lib.hid z39
      have Yb10 := Lib.hid y39
      have Xb10 := Lib.hid x39
      have NE : Hid (b9 ≠ b10) := Lib.hid (by omega)
      clear u39
      clear v39 e7 z39 y39 x39
      refine ⟨K_39.out, ?_⟩
      go_frame
      refine h_all1 (i := 7) (by kernel_rfl) ?_
      refine o_call (f := 59) (args := #[.pointer (some ⟨tb, 0, none⟩), ndv M]) rfl (by rfl) (by go_simp) ?_
      refine (HTH.out _ T_39.out).mono ?_
      rintro e w40 ⟨rfl, b40⟩
      have K_40 := Lib.hid (And.intro (K_39.out.1.below b40) (K_39.out.2.below b40))
      have T_40 := Lib.hid (T_39.out.below b40)
      have B_40 := Lib.hid (below_add B_39.out b40 B_39.out.size)
      have V9_40 := Lib.hid (V9_39.out.below b40)
      have V10_40 := Lib.hid (V10_39.out.below b40)
      clear b40
      refine ⟨_, rfl, K_40.out, ?_⟩
      go_frame
      refine h_all1 (i := 9) (by kernel_rfl) ?_
      refine o_call (f := 55) (args := #[.agg cx, .int .i64 (k : Nat)]) rfl (by rfl) (by go_simp) ?_
      refine (HCUT.out _).mono ?_
      rintro e w41 ⟨rfl, b41⟩
      have K_41 := Lib.hid (And.intro (K_40.out.1.below b41) (K_40.out.2.below b41))
      have T_41 := Lib.hid (T_40.out.below b41)
      have B_41 := Lib.hid (below_add B_40.out b41 B_40.out.size)
      have V9_41 := Lib.hid (V9_40.out.below b41)
      have V10_41 := Lib.hid (V10_40.out.below b41)
      clear b41
      refine ⟨_, rfl, K_41.out, ?_⟩
      go_frame
      refine h_val (i := 10) (v := .tuple #[.agg ca, .agg cb]) rfl (by kernel_rfl) (by kernel_rfl) (by kernel_rfl) (fun _ _ _ h => h) (by rfl) (fun wz hS => ?_) K_41.out ?_
      · skip
        go_simp
      go_frame
      refine h_val (i := 11) (v := .agg ca) rfl (by kernel_rfl) (by kernel_rfl) (by kernel_rfl) (fun _ _ _ h => h) (by rfl) (fun wz hS => ?_) K_41.out ?_
      · skip
        go_simp
      go_frame
      refine h_val (i := 12) (v := .agg cb) rfl (by kernel_rfl) (by kernel_rfl) (by kernel_rfl) (fun _ _ _ h => h) (by rfl) (fun wz hS => ?_) K_41.out ?_
      · skip
        go_simp
      go_frame
      refine h_all1 (i := 15) (by kernel_rfl) ?_
      refine o_step rfl (by rfl) ?_
      refine wp_store_row 61 (.tmp 9) (.tmp 43) rfl b9 ca rfl rfl _ _ V9_41.out (xinfo SA.out) (by rw [SA.out]; exact xz_size) OA1.out ?_
      have K_e := Lib.hid (And.intro (K_41.out.1.other (c := b9) (by have := Yb9.out; omega) ca) (K_41.out.2.other (c := b9) (by have := Xb9.out; omega) ca))
      have V9_e := Lib.hid (V9_41.out.set ca)
      have V10_e := Lib.hid (V10_41.out.other (c := b9) NE.out.symm ca)
      have B_e := Lib.hid (below_row (cs := ca) B_41.out Zb9.out)
      refine ⟨K_e.out, ?_⟩
      go_frame
      refine h_all1 (i := 16) (by kernel_rfl) ?_
      refine o_step rfl (by rfl) ?_
      refine wp_store_row 61 (.tmp 10) (.tmp 44) rfl b10 cb rfl rfl _ _ V10_e.out (xinfo SB.out) (by rw [SB.out]; exact xz_size) OB1.out ?_
      have K_f := Lib.hid (And.intro (K_e.out.1.other (c := b10) (by have := Yb10.out; omega) cb) (K_e.out.2.other (c := b10) (by have := Xb10.out; omega) cb))
      have V9_f := Lib.hid (V9_e.out.other (c := b10) NE.out cb)
      have V10_f := Lib.hid (V10_e.out.set cb)
      have B_f := Lib.hid (below_row (cs := cb) B_e.out Zb10.out)
      refine ⟨K_f.out, ?_⟩
      go_frame
      refine h_done (by kernel_rfl) ?_
      go_upto_region 8 with fail
      refine with_worldT (fun W => Cb b9 61 ca W ∧ Cb b10 61 cb W ∧ Below w.heap.size w W) ⟨V9_f.out, V10_f.out, B_f.out⟩ fun W8 hW8 => ?_
      have B_8 := Lib.hid hW8.2.2
      have HN9 := Lib.hid (loc_not (S := S) (w := w) (W := W8) (b := b9) Zb9.out hW8.1.lt)
      have HN10 := Lib.hid (loc_not (S := S) (w := w) (W := W8) (b := b10) Zb10.out hW8.2.1.lt)
      have HS4 := Lib.hid (loc_sub (S := S) (w := w) (W := W8) HUP.out hW8.2.2.size)
      have S0 := Lib.hid (H.out.loc hW8.2.2)
      have P0 := Lib.hid (loc_up S w W8)
      generalize Loc S w W8 = S4 at *
      have C9 := Lib.hid hW8.1
      have C10 := Lib.hid hW8.2.1
      clear hW8 K_e K_f V9_e V10_e V9_f V10_f B_e B_f HT HTH HCUT
      go_upto_region 9 with (go_at_call 44; refine (drop_q (Tr.leaf n t x : TC) S0.out P0.out).mono ?_; rintro e v0 ⟨rfl, ss, oo⟩; have S1 := Lib.hid (ss.below (below_drew v0)); have O1 := Lib.hid (oo.below_r (below_drew v0)); have P1 := Lib.hid ((P0.out.off oo).below (below_drew (B := 0) v0)); have K_19 := Lib.hid (And.intro ((C9.out.off oo HN9.out).below (below_drew v0)) ((C10.out.off oo HN10.out).below (below_drew v0))); clear ss oo)
      refine h_start (S := fun W => Cb b9 61 ca W ∧ Cb b10 61 cb W) (by kernel_rfl) ?_
      refine h_val (i := 0) (v := .pointer (some ⟨tb, 0, none⟩)) rfl (by kernel_rfl) (by kernel_rfl) (by kernel_rfl) (fun _ _ _ h => h) (by rfl) (fun wz hS => ?_) K_19.out ?_
      · skip
        go_simp
      go_frame
      refine h_val (i := 1) (v := .agg ca) rfl (by kernel_rfl) (by kernel_rfl) (by kernel_rfl) (fun _ _ _ h => h) (by rfl) (fun wz hS => ?_) K_19.out ?_
      · skip
        exact x_load 61 (.tmp 9) rfl _ rfl _ _ _ _ hS.1 Try.underlying61 rfl (xinfo SA.out)
      go_frame
      refine h_val (i := 3) (v := .pointer (some ⟨tb, 0, none⟩)) rfl (by kernel_rfl) (by kernel_rfl) (by kernel_rfl) (fun _ _ _ h => h) (by rfl) (fun wz hS => ?_) K_19.out ?_
      · skip
        go_simp
      go_frame
      refine h_val (i := 4) (v := .agg cb) rfl (by kernel_rfl) (by kernel_rfl) (by kernel_rfl) (fun _ _ _ h => h) (by rfl) (fun wz hS => ?_) K_19.out ?_
      · skip
        exact x_load 61 (.tmp 10) rfl _ rfl _ _ _ _ hS.2 Try.underlying61 rfl (xinfo SB.out)
      go_frame
      refine h_all1 (i := 2) (by kernel_rfl) ?_
      refine o_call (f := 61) (args := #[.pointer (some ⟨tb, 0, none⟩), .agg ca]) rfl (by rfl) (by go_simp) ?_
      refine (HLA.out _ S4 _ _ S1.out P1.out (by have := HQ.out; have := LA.out; omega)).mono ?_
      rintro e v2 ⟨a, rfl, ea, ss, oo⟩
      have K_29 := Lib.hid (And.intro (K_19.out.1.off oo HN9.out) (K_19.out.2.off oo HN10.out))
      have S2 := Lib.hid ss
      have O2 := Lib.hid (O1.out.seq oo)
      have P2 := Lib.hid (P1.out.off oo)
      have Ea := Lib.hid ea
      clear ss oo ea
      refine ⟨_, rfl, K_29.out, ?_⟩
      go_frame
      refine h_all1 (i := 5) (by kernel_rfl) ?_
      refine o_call (f := 61) (args := #[.pointer (some ⟨tb, 0, none⟩), .agg cb]) rfl (by rfl) (by go_simp) ?_
      refine (HLB.out _ S4 _ _ S2.out P2.out (by have := HQ.out; have := LA.out; omega)).mono ?_
      rintro e v3 ⟨b, rfl, eb, ss, oo⟩
      have K_39 := Lib.hid (And.intro (K_29.out.1.off oo HN9.out) (K_29.out.2.off oo HN10.out))
      have S3 := Lib.hid ss
      have O3 := Lib.hid (O2.out.seq oo)
      have P3 := Lib.hid (P2.out.off oo)
      have Eb := Lib.hid eb
      clear ss oo eb
      refine ⟨_, rfl, K_39.out, ?_⟩
      go_frame
      refine h_val (i := 6) (v := .int .i64 a.id) rfl (by kernel_rfl) (by kernel_rfl) (by kernel_rfl) (fun _ _ _ h => h) (by rfl) (fun wz hS => ?_) K_39.out ?_
      · skip
        go_simp
      go_frame
      refine h_val (i := 7) (v := .int .i64 b.id) rfl (by kernel_rfl) (by kernel_rfl) (by kernel_rfl) (fun _ _ _ h => h) (by rfl) (fun wz hS => ?_) K_39.out ?_
      · skip
        go_simp
      go_frame
      refine h_done (by kernel_rfl) ?_
      go_wp2
      have h3 := S3.out.swap
      refine bodyPost_ret (by simp [results, Try.results43, go_sem]) rfl ⟨a, b, rfl, ⟨by rw [Ea.out]; exact EKA.out, by rw [Eb.out]; exact EKB.out, fun _ => by rw [Ea.out, Eb.out]; exact EKP.out⟩, ⟨h3.1.mono HS4.out, ?_⟩, Off.below_l B_8.out (O3.out.mono HS4.out)⟩
      have h5 := H.out.2
      rw [tot_cons] at h5
      have h6 := LC.out
      rw [tot_cons, tot_cons, Ea.out, Eb.out]
      omega
  · skip
    refine o_step rfl (by rfl) ?_
    refine wp_alloc_row 61 rfl czr xzero ?_
    have v44 := cb_new W0.drew 61 czr
    have z44 : w.heap.size ≤ (W0.drew).heap.size := B_0.out.size
    have y44 : tb < (W0.drew).heap.size := K_0.out.1.lt
    have x44 : b8 < (W0.drew).heap.size := K_0.out.2.lt
    have K_44 := Lib.hid (And.intro (K_0.out.1.alloc (.cells czr 61)) (K_0.out.2.alloc (.cells czr 61)))
    have T_44 := Lib.hid (T_0.out.below (below_alloc1 _ (.cells czr 61)))
    have B_44 := Lib.hid (B_0.out.alloc B_0.out.size (.cells czr 61))
    obtain ⟨b10, e7⟩ : ∃ b10, (W0.drew).heap.size = b10 := ⟨_, rfl⟩
    rw [e7] at v44 z44 y44 x44 ⊢
    have V10_44 := Lib.hid v44
    have Zb10 := Lib.hid z44
    have Yb10 := Lib.hid y44
    have Xb10 := Lib.hid x44
    clear v44 e7 z44 y44 x44
    refine ⟨K_44.out, ?_⟩
    go_frame
    refine h_all2 (i := 7) (j := 13) (by kernel_rfl) ?_ ?_
    · skip
      refine o_call (f := 59) (args := #[.pointer (some ⟨tb, 0, none⟩), ndv M]) rfl (by rfl) (by go_simp) ?_
      refine (HTH.out _ T_44.out).mono ?_
      rintro e w45 ⟨rfl, b45⟩
      have K_45 := Lib.hid (And.intro (K_44.out.1.below b45) (K_44.out.2.below b45))
      have T_45 := Lib.hid (T_44.out.below b45)
      have B_45 := Lib.hid (below_add B_44.out b45 B_44.out.size)
      have V10_45 := Lib.hid (V10_44.out.below b45)
      clear b45
      refine ⟨_, rfl, K_45.out, ?_⟩
      go_frame
      refine h_all2 (i := 9) (j := 13) (by kernel_rfl) ?_ ?_
      · skip
        refine o_call (f := 55) (args := #[.agg cx, .int .i64 (k : Nat)]) rfl (by rfl) (by go_simp) ?_
        refine (HCUT.out _).mono ?_
        rintro e w46 ⟨rfl, b46⟩
        have K_46 := Lib.hid (And.intro (K_45.out.1.below b46) (K_45.out.2.below b46))
        have T_46 := Lib.hid (T_45.out.below b46)
        have B_46 := Lib.hid (below_add B_45.out b46 B_45.out.size)
        have V10_46 := Lib.hid (V10_45.out.below b46)
        clear b46
        refine ⟨_, rfl, K_46.out, ?_⟩
        go_frame
        refine h_val (i := 10) (v := .tuple #[.agg ca, .agg cb]) rfl (by kernel_rfl) (by kernel_rfl) (by kernel_rfl) (fun _ _ _ h => h) (by rfl) (fun wz hS => ?_) K_46.out ?_
        · skip
          go_simp
        go_frame
        refine h_val (i := 11) (v := .agg ca) rfl (by kernel_rfl) (by kernel_rfl) (by kernel_rfl) (fun _ _ _ h => h) (by rfl) (fun wz hS => ?_) K_46.out ?_
        · skip
          go_simp
        go_frame
        refine h_val (i := 12) (v := .agg cb) rfl (by kernel_rfl) (by kernel_rfl) (by kernel_rfl) (fun _ _ _ h => h) (by rfl) (fun wz hS => ?_) K_46.out ?_
        · skip
          go_simp
        go_frame
        refine h_all1 (i := 13) (by kernel_rfl) ?_
        refine o_step rfl (by rfl) ?_
        refine wp_alloc_row 61 rfl czr xzero ?_
        have v47 := cb_new w46 61 czr
        have z47 : w.heap.size ≤ (w46).heap.size := B_46.out.size
        have y47 : tb < (w46).heap.size := K_46.out.1.lt
        have x47 : b8 < (w46).heap.size := K_46.out.2.lt
        have u47 : b10 < (w46).heap.size := V10_46.out.lt
        have K_47 := Lib.hid (And.intro (K_46.out.1.alloc (.cells czr 61)) (K_46.out.2.alloc (.cells czr 61)))
        have T_47 := Lib.hid (T_46.out.below (below_alloc1 _ (.cells czr 61)))
        have B_47 := Lib.hid (B_46.out.alloc B_46.out.size (.cells czr 61))
        have V10_47 := Lib.hid (V10_46.out.alloc (.cells czr 61))
        obtain ⟨b9, e7⟩ : ∃ b9, (w46).heap.size = b9 := ⟨_, rfl⟩
        rw [e7] at v47 z47 y47 x47 u47 ⊢
        have V9_47 := Lib.hid v47
        have Zb9 := Lib.hid z47
        have Yb9 := Lib.hid y47
        have Xb9 := Lib.hid x47
        have NE : Hid (b9 ≠ b10) := Lib.hid (by omega)
        clear u47
        clear v47 e7 z47 y47 x47
        refine ⟨K_47.out, ?_⟩
        go_frame
        refine h_all1 (i := 15) (by kernel_rfl) ?_
        refine o_step rfl (by rfl) ?_
        refine wp_store_row 61 (.tmp 9) (.tmp 43) rfl b9 ca rfl rfl _ _ V9_47.out (xinfo SA.out) (by rw [SA.out]; exact xz_size) OA1.out ?_
        have K_e := Lib.hid (And.intro (K_47.out.1.other (c := b9) (by have := Yb9.out; omega) ca) (K_47.out.2.other (c := b9) (by have := Xb9.out; omega) ca))
        have V9_e := Lib.hid (V9_47.out.set ca)
        have V10_e := Lib.hid (V10_47.out.other (c := b9) NE.out.symm ca)
        have B_e := Lib.hid (below_row (cs := ca) B_47.out Zb9.out)
        refine ⟨K_e.out, ?_⟩
        go_frame
        refine h_all1 (i := 16) (by kernel_rfl) ?_
        refine o_step rfl (by rfl) ?_
        refine wp_store_row 61 (.tmp 10) (.tmp 44) rfl b10 cb rfl rfl _ _ V10_e.out (xinfo SB.out) (by rw [SB.out]; exact xz_size) OB1.out ?_
        have K_f := Lib.hid (And.intro (K_e.out.1.other (c := b10) (by have := Yb10.out; omega) cb) (K_e.out.2.other (c := b10) (by have := Xb10.out; omega) cb))
        have V9_f := Lib.hid (V9_e.out.other (c := b10) NE.out cb)
        have V10_f := Lib.hid (V10_e.out.set cb)
        have B_f := Lib.hid (below_row (cs := cb) B_e.out Zb10.out)
        refine ⟨K_f.out, ?_⟩
        go_frame
        refine h_done (by kernel_rfl) ?_
        go_upto_region 8 with fail
        refine with_worldT (fun W => Cb b9 61 ca W ∧ Cb b10 61 cb W ∧ Below w.heap.size w W) ⟨V9_f.out, V10_f.out, B_f.out⟩ fun W8 hW8 => ?_
        have B_8 := Lib.hid hW8.2.2
        have HN9 := Lib.hid (loc_not (S := S) (w := w) (W := W8) (b := b9) Zb9.out hW8.1.lt)
        have HN10 := Lib.hid (loc_not (S := S) (w := w) (W := W8) (b := b10) Zb10.out hW8.2.1.lt)
        have HS4 := Lib.hid (loc_sub (S := S) (w := w) (W := W8) HUP.out hW8.2.2.size)
        have S0 := Lib.hid (H.out.loc hW8.2.2)
        have P0 := Lib.hid (loc_up S w W8)
        generalize Loc S w W8 = S4 at *
        have C9 := Lib.hid hW8.1
        have C10 := Lib.hid hW8.2.1
        clear hW8 K_e K_f V9_e V10_e V9_f V10_f B_e B_f HT HTH HCUT
        go_upto_region 9 with (go_at_call 44; refine (drop_q (Tr.leaf n t x : TC) S0.out P0.out).mono ?_; rintro e v0 ⟨rfl, ss, oo⟩; have S1 := Lib.hid (ss.below (below_drew v0)); have O1 := Lib.hid (oo.below_r (below_drew v0)); have P1 := Lib.hid ((P0.out.off oo).below (below_drew (B := 0) v0)); have K_19 := Lib.hid (And.intro ((C9.out.off oo HN9.out).below (below_drew v0)) ((C10.out.off oo HN10.out).below (below_drew v0))); clear ss oo)
        refine h_start (S := fun W => Cb b9 61 ca W ∧ Cb b10 61 cb W) (by kernel_rfl) ?_
        refine h_val (i := 0) (v := .pointer (some ⟨tb, 0, none⟩)) rfl (by kernel_rfl) (by kernel_rfl) (by kernel_rfl) (fun _ _ _ h => h) (by rfl) (fun wz hS => ?_) K_19.out ?_
        · skip
          go_simp
        go_frame
        refine h_val (i := 1) (v := .agg ca) rfl (by kernel_rfl) (by kernel_rfl) (by kernel_rfl) (fun _ _ _ h => h) (by rfl) (fun wz hS => ?_) K_19.out ?_
        · skip
          exact x_load 61 (.tmp 9) rfl _ rfl _ _ _ _ hS.1 Try.underlying61 rfl (xinfo SA.out)
        go_frame
        refine h_val (i := 3) (v := .pointer (some ⟨tb, 0, none⟩)) rfl (by kernel_rfl) (by kernel_rfl) (by kernel_rfl) (fun _ _ _ h => h) (by rfl) (fun wz hS => ?_) K_19.out ?_
        · skip
          go_simp
        go_frame
        refine h_val (i := 4) (v := .agg cb) rfl (by kernel_rfl) (by kernel_rfl) (by kernel_rfl) (fun _ _ _ h => h) (by rfl) (fun wz hS => ?_) K_19.out ?_
        · skip
          exact x_load 61 (.tmp 10) rfl _ rfl _ _ _ _ hS.2 Try.underlying61 rfl (xinfo SB.out)
        go_frame
        refine h_all1 (i := 2) (by kernel_rfl) ?_
        refine o_call (f := 61) (args := #[.pointer (some ⟨tb, 0, none⟩), .agg ca]) rfl (by rfl) (by go_simp) ?_
        refine (HLA.out _ S4 _ _ S1.out P1.out (by have := HQ.out; have := LA.out; omega)).mono ?_
        rintro e v2 ⟨a, rfl, ea, ss, oo⟩
        have K_29 := Lib.hid (And.intro (K_19.out.1.off oo HN9.out) (K_19.out.2.off oo HN10.out))
        have S2 := Lib.hid ss
        have O2 := Lib.hid (O1.out.seq oo)
        have P2 := Lib.hid (P1.out.off oo)
        have Ea := Lib.hid ea
        clear ss oo ea
        refine ⟨_, rfl, K_29.out, ?_⟩
        go_frame
        refine h_all1 (i := 5) (by kernel_rfl) ?_
        refine o_call (f := 61) (args := #[.pointer (some ⟨tb, 0, none⟩), .agg cb]) rfl (by rfl) (by go_simp) ?_
        refine (HLB.out _ S4 _ _ S2.out P2.out (by have := HQ.out; have := LA.out; omega)).mono ?_
        rintro e v3 ⟨b, rfl, eb, ss, oo⟩
        have K_39 := Lib.hid (And.intro (K_29.out.1.off oo HN9.out) (K_29.out.2.off oo HN10.out))
        have S3 := Lib.hid ss
        have O3 := Lib.hid (O2.out.seq oo)
        have P3 := Lib.hid (P2.out.off oo)
        have Eb := Lib.hid eb
        clear ss oo eb
        refine ⟨_, rfl, K_39.out, ?_⟩
        go_frame
        refine h_val (i := 6) (v := .int .i64 a.id) rfl (by kernel_rfl) (by kernel_rfl) (by kernel_rfl) (fun _ _ _ h => h) (by rfl) (fun wz hS => ?_) K_39.out ?_
        · skip
          go_simp
        go_frame
        refine h_val (i := 7) (v := .int .i64 b.id) rfl (by kernel_rfl) (by kernel_rfl) (by kernel_rfl) (fun _ _ _ h => h) (by rfl) (fun wz hS => ?_) K_39.out ?_
        · skip
          go_simp
        go_frame
        refine h_done (by kernel_rfl) ?_
        go_wp2
        have h3 := S3.out.swap
        refine bodyPost_ret (by simp [results, Try.results43, go_sem]) rfl ⟨a, b, rfl, ⟨by rw [Ea.out]; exact EKA.out, by rw [Eb.out]; exact EKB.out, fun _ => by rw [Ea.out, Eb.out]; exact EKP.out⟩, ⟨h3.1.mono HS4.out, ?_⟩, Off.below_l B_8.out (O3.out.mono HS4.out)⟩
        have h5 := H.out.2
        rw [tot_cons] at h5
        have h6 := LC.out
        rw [tot_cons, tot_cons, Ea.out, Eb.out]
        omega
      · skip
        refine o_step rfl (by rfl) ?_
        refine wp_alloc_row 61 rfl czr xzero ?_
        have v50 := cb_new w45 61 czr
        have z50 : w.heap.size ≤ (w45).heap.size := B_45.out.size
        have y50 : tb < (w45).heap.size := K_45.out.1.lt
        have x50 : b8 < (w45).heap.size := K_45.out.2.lt
        have u50 : b10 < (w45).heap.size := V10_45.out.lt
        have K_50 := Lib.hid (And.intro (K_45.out.1.alloc (.cells czr 61)) (K_45.out.2.alloc (.cells czr 61)))
        have T_50 := Lib.hid (T_45.out.below (below_alloc1 _ (.cells czr 61)))
        have B_50 := Lib.hid (B_45.out.alloc B_45.out.size (.cells czr 61))
        have V10_50 := Lib.hid (V10_45.out.alloc (.cells czr 61))
        obtain ⟨b9, e7⟩ : ∃ b9, (w45).heap.size = b9 := ⟨_, rfl⟩
        rw [e7] at v50 z50 y50 x50 u50 ⊢
        have V9_50 := Lib.hid v50
        have Zb9 := Lib.hid z50
        have Yb9 := Lib.hid y50
        have Xb9 := Lib.hid x50
        have NE : Hid (b9 ≠ b10) := Lib.hid (by omega)
        clear u50
        clear v50 e7 z50 y50 x50
        refine ⟨K_50.out, ?_⟩
        go_frame
        refine h_all1 (i := 9) (by kernel_rfl) ?_
        refine o_call (f := 55) (args := #[.agg cx, .int .i64 (k : Nat)]) rfl (by rfl) (by go_simp) ?_
        refine (HCUT.out _).mono ?_
        rintro e w51 ⟨rfl, b51⟩
        have K_51 := Lib.hid (And.intro (K_50.out.1.below b51) (K_50.out.2.below b51))
        have T_51 := Lib.hid (T_50.out.below b51)
        have B_51 := Lib.hid (below_add B_50.out b51 B_50.out.size)
        have V10_51 := Lib.hid (V10_50.out.below b51)
        have V9_51 := Lib.hid (V9_50.out.below b51)
        clear b51
        refine ⟨_, rfl, K_51.out, ?_⟩
        go_frame
        refine h_val (i := 10) (v := .tuple #[.agg ca, .agg cb]) rfl (by kernel_rfl) (by kernel_rfl) (by kernel_rfl) (fun _ _ _ h => h) (by rfl) (fun wz hS => ?_) K_51.out ?_
        · skip
          go_simp
        go_frame
        refine h_val (i := 11) (v := .agg ca) rfl (by kernel_rfl) (by kernel_rfl) (by kernel_rfl) (fun _ _ _ h => h) (by rfl) (fun wz hS => ?_) K_51.out ?_
        · skip
          go_simp
        go_frame
        refine h_val (i := 12) (v := .agg cb) rfl (by kernel_rfl) (by kernel_rfl) (by kernel_rfl) (fun _ _ _ h => h) (by rfl) (fun wz hS => ?_) K_51.out ?_
        · skip
          go_simp
        go_frame
        refine h_all1 (i := 15) (by kernel_rfl) ?_
        refine o_step rfl (by rfl) ?_
        refine wp_store_row 61 (.tmp 9) (.tmp 43) rfl b9 ca rfl rfl _ _ V9_51.out (xinfo SA.out) (by rw [SA.out]; exact xz_size) OA1.out ?_
        have K_e := Lib.hid (And.intro (K_51.out.1.other (c := b9) (by have := Yb9.out; omega) ca) (K_51.out.2.other (c := b9) (by have := Xb9.out; omega) ca))
        have V9_e := Lib.hid (V9_51.out.set ca)
        have V10_e := Lib.hid (V10_51.out.other (c := b9) NE.out.symm ca)
        have B_e := Lib.hid (below_row (cs := ca) B_51.out Zb9.out)
        refine ⟨K_e.out, ?_⟩
        go_frame
        refine h_all1 (i := 16) (by kernel_rfl) ?_
        refine o_step rfl (by rfl) ?_
        refine wp_store_row 61 (.tmp 10) (.tmp 44) rfl b10 cb rfl rfl _ _ V10_e.out (xinfo SB.out) (by rw [SB.out]; exact xz_size) OB1.out ?_
        have K_f := Lib.hid (And.intro (K_e.out.1.other (c := b10) (by have := Yb10.out; omega) cb) (K_e.out.2.other (c := b10) (by have := Xb10.out; omega) cb))
        have V9_f := Lib.hid (V9_e.out.other (c := b10) NE.out cb)
        have V10_f := Lib.hid (V10_e.out.set cb)
        have B_f := Lib.hid (below_row (cs := cb) B_e.out Zb10.out)
        refine ⟨K_f.out, ?_⟩
        go_frame
        refine h_done (by kernel_rfl) ?_
        go_upto_region 8 with fail
        refine with_worldT (fun W => Cb b9 61 ca W ∧ Cb b10 61 cb W ∧ Below w.heap.size w W) ⟨V9_f.out, V10_f.out, B_f.out⟩ fun W8 hW8 => ?_
        have B_8 := Lib.hid hW8.2.2
        have HN9 := Lib.hid (loc_not (S := S) (w := w) (W := W8) (b := b9) Zb9.out hW8.1.lt)
        have HN10 := Lib.hid (loc_not (S := S) (w := w) (W := W8) (b := b10) Zb10.out hW8.2.1.lt)
        have HS4 := Lib.hid (loc_sub (S := S) (w := w) (W := W8) HUP.out hW8.2.2.size)
        have S0 := Lib.hid (H.out.loc hW8.2.2)
        have P0 := Lib.hid (loc_up S w W8)
        generalize Loc S w W8 = S4 at *
        have C9 := Lib.hid hW8.1
        have C10 := Lib.hid hW8.2.1
        clear hW8 K_e K_f V9_e V10_e V9_f V10_f B_e B_f HT HTH HCUT
        go_upto_region 9 with (go_at_call 44; refine (drop_q (Tr.leaf n t x : TC) S0.out P0.out).mono ?_; rintro e v0 ⟨rfl, ss, oo⟩; have S1 := Lib.hid (ss.below (below_drew v0)); have O1 := Lib.hid (oo.below_r (below_drew v0)); have P1 := Lib.hid ((P0.out.off oo).below (below_drew (B := 0) v0)); have K_19 := Lib.hid (And.intro ((C9.out.off oo HN9.out).below (below_drew v0)) ((C10.out.off oo HN10.out).below (below_drew v0))); clear ss oo)
        refine h_start (S := fun W => Cb b9 61 ca W ∧ Cb b10 61 cb W) (by kernel_rfl) ?_
        refine h_val (i := 0) (v := .pointer (some ⟨tb, 0, none⟩)) rfl (by kernel_rfl) (by kernel_rfl) (by kernel_rfl) (fun _ _ _ h => h) (by rfl) (fun wz hS => ?_) K_19.out ?_
        · skip
          go_simp
        go_frame
        refine h_val (i := 1) (v := .agg ca) rfl (by kernel_rfl) (by kernel_rfl) (by kernel_rfl) (fun _ _ _ h => h) (by rfl) (fun wz hS => ?_) K_19.out ?_
        · skip
          exact x_load 61 (.tmp 9) rfl _ rfl _ _ _ _ hS.1 Try.underlying61 rfl (xinfo SA.out)
        go_frame
        refine h_val (i := 3) (v := .pointer (some ⟨tb, 0, none⟩)) rfl (by kernel_rfl) (by kernel_rfl) (by kernel_rfl) (fun _ _ _ h => h) (by rfl) (fun wz hS => ?_) K_19.out ?_
        · skip
          go_simp
        go_frame
        refine h_val (i := 4) (v := .agg cb) rfl (by kernel_rfl) (by kernel_rfl) (by kernel_rfl) (fun _ _ _ h => h) (by rfl) (fun wz hS => ?_) K_19.out ?_
        · skip
          exact x_load 61 (.tmp 10) rfl _ rfl _ _ _ _ hS.2 Try.underlying61 rfl (xinfo SB.out)
        go_frame
        refine h_all1 (i := 2) (by kernel_rfl) ?_
        refine o_call (f := 61) (args := #[.pointer (some ⟨tb, 0, none⟩), .agg ca]) rfl (by rfl) (by go_simp) ?_
        refine (HLA.out _ S4 _ _ S1.out P1.out (by have := HQ.out; have := LA.out; omega)).mono ?_
        rintro e v2 ⟨a, rfl, ea, ss, oo⟩
        have K_29 := Lib.hid (And.intro (K_19.out.1.off oo HN9.out) (K_19.out.2.off oo HN10.out))
        have S2 := Lib.hid ss
        have O2 := Lib.hid (O1.out.seq oo)
        have P2 := Lib.hid (P1.out.off oo)
        have Ea := Lib.hid ea
        clear ss oo ea
        refine ⟨_, rfl, K_29.out, ?_⟩
        go_frame
        refine h_all1 (i := 5) (by kernel_rfl) ?_
        refine o_call (f := 61) (args := #[.pointer (some ⟨tb, 0, none⟩), .agg cb]) rfl (by rfl) (by go_simp) ?_
        refine (HLB.out _ S4 _ _ S2.out P2.out (by have := HQ.out; have := LA.out; omega)).mono ?_
        rintro e v3 ⟨b, rfl, eb, ss, oo⟩
        have K_39 := Lib.hid (And.intro (K_29.out.1.off oo HN9.out) (K_29.out.2.off oo HN10.out))
        have S3 := Lib.hid ss
        have O3 := Lib.hid (O2.out.seq oo)
        have P3 := Lib.hid (P2.out.off oo)
        have Eb := Lib.hid eb
        clear ss oo eb
        refine ⟨_, rfl, K_39.out, ?_⟩
        go_frame
        refine h_val (i := 6) (v := .int .i64 a.id) rfl (by kernel_rfl) (by kernel_rfl) (by kernel_rfl) (fun _ _ _ h => h) (by rfl) (fun wz hS => ?_) K_39.out ?_
        · skip
          go_simp
        go_frame
        refine h_val (i := 7) (v := .int .i64 b.id) rfl (by kernel_rfl) (by kernel_rfl) (by kernel_rfl) (fun _ _ _ h => h) (by rfl) (fun wz hS => ?_) K_39.out ?_
        · skip
          go_simp
        go_frame
        refine h_done (by kernel_rfl) ?_
        go_wp2
        have h3 := S3.out.swap
        refine bodyPost_ret (by simp [results, Try.results43, go_sem]) rfl ⟨a, b, rfl, ⟨by rw [Ea.out]; exact EKA.out, by rw [Eb.out]; exact EKB.out, fun _ => by rw [Ea.out, Eb.out]; exact EKP.out⟩, ⟨h3.1.mono HS4.out, ?_⟩, Off.below_l B_8.out (O3.out.mono HS4.out)⟩
        have h5 := H.out.2
        rw [tot_cons] at h5
        have h6 := LC.out
        rw [tot_cons, tot_cons, Ea.out, Eb.out]
        omega
    · skip
      refine o_step rfl (by rfl) ?_
      refine wp_alloc_row 61 rfl czr xzero ?_
      have v54 := cb_new (W0.drew.alloc (.cells czr 61)) 61 czr
      have z54 : w.heap.size ≤ ((W0.drew.alloc (.cells czr 61))).heap.size := B_44.out.size
      have y54 : tb < ((W0.drew.alloc (.cells czr 61))).heap.size := K_44.out.1.lt
      have x54 : b8 < ((W0.drew.alloc (.cells czr 61))).heap.size := K_44.out.2.lt
      have u54 : b10 < ((W0.drew.alloc (.cells czr 61))).heap.size := V10_44.out.lt
      have K_54 := Lib.hid (And.intro (K_44.out.1.alloc (.cells czr 61)) (K_44.out.2.alloc (.cells czr 61)))
      have T_54 := Lib.hid (T_44.out.below (below_alloc1 _ (.cells czr 61)))
      have B_54 := Lib.hid (B_44.out.alloc B_44.out.size (.cells czr 61))
      have V10_54 := Lib.hid (V10_44.out.alloc (.cells czr 61))
      obtain ⟨b9, e7⟩ : ∃ b9, ((W0.drew.alloc (.cells czr 61))).heap.size = b9 := ⟨_, rfl⟩
      rw [e7] at v54 z54 y54 x54 u54 ⊢
      have V9_54 := Lib.hid v54
      have Zb9 := Lib.hid z54
      have Yb9 := Lib.hid y54
      have Xb9 := Lib.hid x54
      have NE : Hid (b9 ≠ b10) := Lib.hid (by omega)
      clear u54
      clear v54 e7 z54 y54 x54
      refine ⟨K_54.out, ?_⟩
      go_frame
      refine h_all1 (i := 7) (by kernel_rfl) ?_
      refine o_call (f := 59) (args := #[.pointer (some ⟨tb, 0, none⟩), ndv M]) rfl (by rfl) (by go_simp) ?_
      refine (HTH.out _ T_54.out).mono ?_
      rintro e w55 ⟨rfl, b55⟩
      have K_55 := Lib.hid (And.intro (K_54.out.1.below b55) (K_54.out.2.below b55))
      have T_55 := Lib.hid (T_54.out.below b55)
      have B_55 := Lib.hid (below_add B_54.out b55 B_54.out.size)
      have V10_55 := Lib.hid (V10_54.out.below b55)
      have V9_55 := Lib.hid (V9_54.out.below b55)
      clear b55
      refine ⟨_, rfl, K_55.out, ?_⟩
      go_frame
      refine h_all1 (i := 9) (by kernel_rfl) ?_
      refine o_call (f := 55) (args := #[.agg cx, .int .i64 (k : Nat)]) rfl (by rfl) (by go_simp) ?_
      refine (HCUT.out _).mono ?_
      rintro e w56 ⟨rfl, b56⟩
      have K_56 := Lib.hid (And.intro (K_55.out.1.below b56) (K_55.out.2.below b56))
      have T_56 := Lib.hid (T_55.out.below b56)
      have B_56 := Lib.hid (below_add B_55.out b56 B_55.out.size)
      have V10_56 := Lib.hid (V10_55.out.below b56)
      have V9_56 := Lib.hid (V9_55.out.below b56)
      clear b56
      refine ⟨_, rfl, K_56.out, ?_⟩
      go_frame
      refine h_val (i := 10) (v := .tuple #[.agg ca, .agg cb]) rfl (by kernel_rfl) (by kernel_rfl) (by kernel_rfl) (fun _ _ _ h => h) (by rfl) (fun wz hS => ?_) K_56.out ?_
      · skip
        go_simp
      go_frame
      refine h_val (i := 11) (v := .agg ca) rfl (by kernel_rfl) (by kernel_rfl) (by kernel_rfl) (fun _ _ _ h => h) (by rfl) (fun wz hS => ?_) K_56.out ?_
      · skip
        go_simp
      go_frame
      refine h_val (i := 12) (v := .agg cb) rfl (by kernel_rfl) (by kernel_rfl) (by kernel_rfl) (fun _ _ _ h => h) (by rfl) (fun wz hS => ?_) K_56.out ?_
      · skip
        go_simp
      go_frame
      refine h_all1 (i := 15) (by kernel_rfl) ?_
      refine o_step rfl (by rfl) ?_
      refine wp_store_row 61 (.tmp 9) (.tmp 43) rfl b9 ca rfl rfl _ _ V9_56.out (xinfo SA.out) (by rw [SA.out]; exact xz_size) OA1.out ?_
      have K_e := Lib.hid (And.intro (K_56.out.1.other (c := b9) (by have := Yb9.out; omega) ca) (K_56.out.2.other (c := b9) (by have := Xb9.out; omega) ca))
      have V9_e := Lib.hid (V9_56.out.set ca)
      have V10_e := Lib.hid (V10_56.out.other (c := b9) NE.out.symm ca)
      have B_e := Lib.hid (below_row (cs := ca) B_56.out Zb9.out)
      refine ⟨K_e.out, ?_⟩
      go_frame
      refine h_all1 (i := 16) (by kernel_rfl) ?_
      refine o_step rfl (by rfl) ?_
      refine wp_store_row 61 (.tmp 10) (.tmp 44) rfl b10 cb rfl rfl _ _ V10_e.out (xinfo SB.out) (by rw [SB.out]; exact xz_size) OB1.out ?_
      have K_f := Lib.hid (And.intro (K_e.out.1.other (c := b10) (by have := Yb10.out; omega) cb) (K_e.out.2.other (c := b10) (by have := Xb10.out; omega) cb))
      have V9_f := Lib.hid (V9_e.out.other (c := b10) NE.out cb)
      have V10_f := Lib.hid (V10_e.out.set cb)
      have B_f := Lib.hid (below_row (cs := cb) B_e.out Zb10.out)
      refine ⟨K_f.out, ?_⟩
      go_frame
      refine h_done (by kernel_rfl) ?_
      go_upto_region 8 with fail
      refine with_worldT (fun W => Cb b9 61 ca W ∧ Cb b10 61 cb W ∧ Below w.heap.size w W) ⟨V9_f.out, V10_f.out, B_f.out⟩ fun W8 hW8 => ?_
      have B_8 := Lib.hid hW8.2.2
      have HN9 := Lib.hid (loc_not (S := S) (w := w) (W := W8) (b := b9) Zb9.out hW8.1.lt)
      have HN10 := Lib.hid (loc_not (S := S) (w := w) (W := W8) (b := b10) Zb10.out hW8.2.1.lt)
      have HS4 := Lib.hid (loc_sub (S := S) (w := w) (W := W8) HUP.out hW8.2.2.size)
      have S0 := Lib.hid (H.out.loc hW8.2.2)
      have P0 := Lib.hid (loc_up S w W8)
      generalize Loc S w W8 = S4 at *
      have C9 := Lib.hid hW8.1
      have C10 := Lib.hid hW8.2.1
      clear hW8 K_e K_f V9_e V10_e V9_f V10_f B_e B_f HT HTH HCUT
      go_upto_region 9 with (go_at_call 44; refine (drop_q (Tr.leaf n t x : TC) S0.out P0.out).mono ?_; rintro e v0 ⟨rfl, ss, oo⟩; have S1 := Lib.hid (ss.below (below_drew v0)); have O1 := Lib.hid (oo.below_r (below_drew v0)); have P1 := Lib.hid ((P0.out.off oo).below (below_drew (B := 0) v0)); have K_19 := Lib.hid (And.intro ((C9.out.off oo HN9.out).below (below_drew v0)) ((C10.out.off oo HN10.out).below (below_drew v0))); clear ss oo)
      refine h_start (S := fun W => Cb b9 61 ca W ∧ Cb b10 61 cb W) (by kernel_rfl) ?_
      refine h_val (i := 0) (v := .pointer (some ⟨tb, 0, none⟩)) rfl (by kernel_rfl) (by kernel_rfl) (by kernel_rfl) (fun _ _ _ h => h) (by rfl) (fun wz hS => ?_) K_19.out ?_
      · skip
        go_simp
      go_frame
      refine h_val (i := 1) (v := .agg ca) rfl (by kernel_rfl) (by kernel_rfl) (by kernel_rfl) (fun _ _ _ h => h) (by rfl) (fun wz hS => ?_) K_19.out ?_
      · skip
        exact x_load 61 (.tmp 9) rfl _ rfl _ _ _ _ hS.1 Try.underlying61 rfl (xinfo SA.out)
      go_frame
      refine h_val (i := 3) (v := .pointer (some ⟨tb, 0, none⟩)) rfl (by kernel_rfl) (by kernel_rfl) (by kernel_rfl) (fun _ _ _ h => h) (by rfl) (fun wz hS => ?_) K_19.out ?_
      · skip
        go_simp
      go_frame
      refine h_val (i := 4) (v := .agg cb) rfl (by kernel_rfl) (by kernel_rfl) (by kernel_rfl) (fun _ _ _ h => h) (by rfl) (fun wz hS => ?_) K_19.out ?_
      · skip
        exact x_load 61 (.tmp 10) rfl _ rfl _ _ _ _ hS.2 Try.underlying61 rfl (xinfo SB.out)
      go_frame
      refine h_all1 (i := 2) (by kernel_rfl) ?_
      refine o_call (f := 61) (args := #[.pointer (some ⟨tb, 0, none⟩), .agg ca]) rfl (by rfl) (by go_simp) ?_
      refine (HLA.out _ S4 _ _ S1.out P1.out (by have := HQ.out; have := LA.out; omega)).mono ?_
      rintro e v2 ⟨a, rfl, ea, ss, oo⟩
      have K_29 := Lib.hid (And.intro (K_19.out.1.off oo HN9.out) (K_19.out.2.off oo HN10.out))
      have S2 := Lib.hid ss
      have O2 := Lib.hid (O1.out.seq oo)
      have P2 := Lib.hid (P1.out.off oo)
      have Ea := Lib.hid ea
      clear ss oo ea
      refine ⟨_, rfl, K_29.out, ?_⟩
      go_frame
      refine h_all1 (i := 5) (by kernel_rfl) ?_
      refine o_call (f := 61) (args := #[.pointer (some ⟨tb, 0, none⟩), .agg cb]) rfl (by rfl) (by go_simp) ?_
      refine (HLB.out _ S4 _ _ S2.out P2.out (by have := HQ.out; have := LA.out; omega)).mono ?_
      rintro e v3 ⟨b, rfl, eb, ss, oo⟩
      have K_39 := Lib.hid (And.intro (K_29.out.1.off oo HN9.out) (K_29.out.2.off oo HN10.out))
      have S3 := Lib.hid ss
      have O3 := Lib.hid (O2.out.seq oo)
      have P3 := Lib.hid (P2.out.off oo)
      have Eb := Lib.hid eb
      clear ss oo eb
      refine ⟨_, rfl, K_39.out, ?_⟩
      go_frame
      refine h_val (i := 6) (v := .int .i64 a.id) rfl (by kernel_rfl) (by kernel_rfl) (by kernel_rfl) (fun _ _ _ h => h) (by rfl) (fun wz hS => ?_) K_39.out ?_
      · skip
        go_simp
      go_frame
      refine h_val (i := 7) (v := .int .i64 b.id) rfl (by kernel_rfl) (by kernel_rfl) (by kernel_rfl) (fun _ _ _ h => h) (by rfl) (fun wz hS => ?_) K_39.out ?_
      · skip
        go_simp
      go_frame
      refine h_done (by kernel_rfl) ?_
      go_wp2
      have h3 := S3.out.swap
      refine bodyPost_ret (by simp [results, Try.results43, go_sem]) rfl ⟨a, b, rfl, ⟨by rw [Ea.out]; exact EKA.out, by rw [Eb.out]; exact EKB.out, fun _ => by rw [Ea.out, Eb.out]; exact EKP.out⟩, ⟨h3.1.mono HS4.out, ?_⟩, Off.below_l B_8.out (O3.out.mono HS4.out)⟩
      have h5 := H.out.2
      rw [tot_cons] at h5
      have h6 := LC.out
      rw [tot_cons, tot_cons, Ea.out, Eb.out]
      omega

theorem split_all : ∀ (T : TC) (k : Nat), (∃ A C, T.In Wc A C) ∨ T = .nil → SplitQ D Q tb root T k
  | .nil, k, _ => by
    by_cases hk : k = 0
    · exact split_lo _ k hk
    · exact split_hi _ k (by omega) (by rw [show Wc.ln (Tr.el Wc (Tr.nil : TC)) = 0 from rfl]; omega)
  | .leaf n t x, k, _ => by
    by_cases hk : k = 0
    · exact split_lo _ k hk
    by_cases hl : x.n ≤ k
    · exact split_hi _ k (by omega) (by rw [show Wc.ln (Tr.el Wc (Tr.leaf n t x)) = x.n from lnS_l x]; exact hl)
    · exact split_leaf n t x k (by omega) (by omega)
  | .fork n l r, k, hi => by
    by_cases hk : k = 0
    · exact split_lo _ k hk
    by_cases hl : Wc.ln (Tr.el Wc (Tr.fork n l r : TC)) ≤ k
    · exact split_hi _ k (by omega) hl
    obtain ⟨A, C, hi⟩ : ∃ A C, (Tr.fork n l r).In Wc A C := by
      rcases hi with hi | hi
      · exact hi
      · cases hi
    by_cases hm : k < Wc.ln (l.el Wc)
    · exact split_forkl n l r k (by omega) (by omega) hm (split_all l k (.inl ⟨A, C, hi.2.2.2.1⟩))
    · exact split_forkr n l r k (by omega) (by omega) (k - Wc.ln (l.el Wc)) (by omega) (split_all r _ (.inl ⟨A, C, hi.2.2.2.2⟩))
theorem split_any (T : TC) (k : Nat) {D : Sv → Prop} {S : Nat → Prop} {F : List TC} {w : World} (h : Sq D Q S tb root (T :: F) w) (hup : Up S w) (hQ : Q ≤ 1400000000) :
    Calls Try.prog 43 #[.pointer (some ⟨tb, 0, none⟩), .int .i64 T.id, .int .i64 (k : Nat)] w fun e w' => ∃ a b : TC, e = .returned (.tuple #[.int .i64 a.id, .int .i64 b.id]) ∧ Cut2 T a b k ∧ Sq D (Q + 10000) S tb root (a :: b :: F) w' ∧ Off S w w' :=
  split_all T k (.inl (h.inn T List.mem_cons_self)) S F w h hup hQ
end
end Go.Proofs.Yteodfbkfpboehaa
