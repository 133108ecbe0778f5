
import Derived.Test.YteodfbkfpboehaaDY
/- UF -/
/- UF: what of a leaf's thing stands between two places -/
namespace Go.Proofs.Yteodfbkfpboehaa
open Go.RowKit
set_option linter.unusedVariables false
set_option maxRecDepth 100000
theorem wp_val {P : Program} {op : Oper} {a : Act} {w : World} {K : Act → World → Prop} {Q : Exit → Act → World → Prop} (v : Value) (hv : (execOp a.eval op).run P w = .ok (.value v) w) (h : K (a.put op.dst v) w) : op.wp P a w K Q := by
  unfold Oper.wp
  rw [hv]
  exact h
theorem wp_skip {P : Program} {op : Oper} {a : Act} {w w' : World} {K : Act → World → Prop} {Q : Exit → Act → World → Prop} (hv : (execOp a.eval op).run P w = .ok .skip w') (h : K (a.put op.dst undef) w') : op.wp P a w K Q := by
  unfold Oper.wp
  rw [hv]
  exact h
section
variable {D : Sv → Prop} {S : Nat → Prop} {tb an cn : Nat} {U V : Nat → Prop} {root : Int} {A : ArS Nd} {C : ArS Ck} {w w' W : World}
theorem cut_row (x : Ck) (i : Nat) (hi : i ≤ x.n) (hb : x.n ≤ 10000000000) : ∃ ca cb : Array Value, krow (cutA x i) = ca ∧ krow (cutB x i) = cb ∧ ca.size = 2 ∧ cb.size = 2 ∧ ca.all (·.oneCell') = true ∧ cb.all (·.oneCell') = true ∧ ∀ w : World, Calls Try.prog 55 #[.agg (krow x), .int .i64 (i : Nat)] w fun e w' => e = .returned (.tuple #[.agg ca, .agg cb]) ∧ Below w.heap.size w w' :=
  ⟨_, _, rfl, rfl, rfl, rfl, krow_one _, krow_one _, fun w => cutw_any x i hi hb w⟩
set_option maxHeartbeats 1000000 in
theorem between_end (h : TrM D S tb an cn U V root A C w) (M : Nd) (x : Ck) (hx : ∃ k : Nat, M.thing = (k : Nat) ∧ C.at_ k = some x) (hl : M.len = (x.n : Nat)) (hb : x.n ≤ 10000000000) (i : Int) (j : Nat) (hi : i ≤ 0) (hj : j < x.n) :
    Calls Try.prog 60 #[.pointer (some ⟨tb, 0, none⟩), ndv M, .int .i64 i, .int .i64 (j : Nat)] w fun e w' => e = .returned (cvs (cutA x j)) ∧ Below w.heap.size w w' := by
  have HTH := Lib.hid (fun (w' : World) (hb : Below w.heap.size w w') => thing_any (h.below hb) M x (.inl hx))
  have HT := Lib.hid (fun (w' : World) (hb : Below w.heap.size w w') => (h.below hb).cb)
  have ZT := Lib.hid h.lt
  obtain ⟨ca1, cb1, hca, hcb, sa, sb, oa, ob, hcut⟩ := cut_row x j (by omega) hb
  have SX := Lib.hid (xc_size x)
  have OX := Lib.hid (krow_one x)
  unfold cvs at *
  rw [hca]
  obtain ⟨cx, hcx⟩ : ∃ cx, krow x = cx := ⟨_, rfl⟩
  rw [hcx] at HTH hcut SX OX
  have HC1 := Lib.hid hcut
  have SA := Lib.hid sa
  have OA := Lib.hid oa
  have d1 : decide (((j : Nat) : Int) < M.len) = true := decide_eq_true (by omega)
  have d2 : decide ((0 : Int) < i) = false := decide_eq_false (by omega)
  clear h hb hx hl hca hcb sa sb oa ob hcut hcx hi hj
  go_enter Try.func60, Try.ntmps60
  go_upto_region 1 with fail
  refine with_worldT (fun W => Cb w.heap.size 102 (ndc M) W ∧ Cb (w.heap.size + 1) 61 czr W ∧ Below w.heap.size w W) ⟨(cb_new w _ _).alloc _, cb2_last w (ndc M), ((Below.refl _ w).alloc (Nat.le_refl _) _).alloc (by simp) _⟩ fun W0 hW0 => ?_
  have N0 := Lib.hid hW0.1
  have R0 := Lib.hid hW0.2.1
  have B0 := Lib.hid hW0.2.2
  clear hW0
  go_upto_region 3 with (first
    | (refine wpList_load_roww 102 (.tmp 5) rfl w.heap.size rfl (by rfl) _ _ _ _ N0.out Try.underlying102 rfl (ninfo M) ?_)
    | (go_at_call 59; refine (HTH.out _ B0.out).mono ?_; rintro e w1 ⟨rfl, b1⟩; have N1 := Lib.hid ((N0.out.below b1).alloc (.cells czr 61)); have R1 := Lib.hid ((R0.out.below b1).alloc (.cells czr 61)); have B1 := Lib.hid ((below_add B0.out b1 B0.out.size).alloc (by have := B0.out.size; have := b1.size; omega) (.cells czr 61)); have V1 := Lib.hid (cb_new w1 61 czr); have Z1 := Lib.hid (show w.heap.size + 1 < w1.heap.size from Nat.lt_of_lt_of_le R0.out.lt b1.size); clear b1)
    | (refine wpList_store_row rfl 61 (.tmp 9) (.tmp 12) rfl w1.heap.size cx rfl rfl _ _ V1.out (xinfo SX.out) (by rw [SX.out]; exact xz_size) OX.out ?_; refine with_worldTL (fun W => Cb w.heap.size 102 (ndc M) W ∧ Cb (w.heap.size + 1) 61 czr W ∧ Cb w1.heap.size 61 cx W ∧ Below w.heap.size w W) ⟨N1.out.other (by have := Z1.out; omega) _, R1.out.other (by have := Z1.out; omega) _, V1.out.set _, below_row B1.out (by have := Z1.out; omega)⟩ fun W1 hW1 => ?_; have c2 : W1.cell? ⟨w.heap.size, 2, none⟩ = some (.int .i64 M.len) := hW1.1.cell 2; have R2 := Lib.hid hW1.2.1; have X2 := Lib.hid hW1.2.2.1; have B2 := Lib.hid hW1.2.2.2; clear hW1))
  have K_0 := Lib.hid ((HT.out _ B2.out).below (below_drew W1))
  have xx := X2.out.below (below_drew W1)
  have R_0 := Lib.hid (R2.out.below (below_drew W1))
  have B_0 := Lib.hid B2.out.drew
  have zz := Z1.out
  obtain ⟨b9, hb9⟩ : ∃ b9, w1.heap.size = b9 := ⟨_, rfl⟩
  refine Hid.out ?_
  rw [hb9] at xx zz ⊢
  refine Lib.hid ?_
  have X_0 := Lib.hid xx
  have Z9 := Lib.hid zz
  clear xx zz hb9 Z1 X2 R2 B2 c2 N0 R0 B0 N1 R1 B1 V1
  refine h_start (S := fun W => Cb tb 92 (tcs an cn root) W) (by kernel_rfl) ?_
  refine h_val (i := 0) (v := .pointer (some ⟨tb, 0, none⟩)) rfl (by kernel_rfl) (by kernel_rfl) (by kernel_rfl) (fun _ _ _ h => h) (by rfl) (fun wz hS => ?_) K_0.out ?_
  · skip
    go_simp
  go_frame
  refine h_val (i := 1) (v := .pointer (some ⟨tb, 0, none⟩)) rfl (by kernel_rfl) (by kernel_rfl) (by kernel_rfl) (fun _ _ _ h => h) (by rfl) (fun wz hS => ?_) K_0.out ?_
  · skip
    go_simp
  go_frame
  refine h_val (i := 2) (v := .pointer (some ⟨tb, 0, none⟩)) rfl (by kernel_rfl) (by kernel_rfl) (by kernel_rfl) (fun _ _ _ h => h) (by rfl) (fun wz hS => ?_) K_0.out ?_
  · skip
    go_simp
  go_frame
  refine h_val (i := 3) (v := .pointer (some ⟨tb, 1, none⟩)) rfl (by kernel_rfl) (by kernel_rfl) (by kernel_rfl) (fun _ _ _ h => h) (by rfl) (fun wz hS => ?_) K_0.out ?_
  · skip
    go_simp
  go_frame
  refine h_val (i := 4) (v := .func (.func 55) #[] #[]) rfl (by kernel_rfl) (by kernel_rfl) (by kernel_rfl) (fun _ _ _ h => h) (by rfl) (fun wz hS => ?_) K_0.out ?_
  · skip
    have q : wz.cell? ⟨tb, 1, none⟩ = some (.func (.func 55) #[] #[]) := hS.cell 1
    go_simp
  go_frame
  refine h_val (i := 6) (v := .int .i64 (j : Nat)) rfl (by kernel_rfl) (by kernel_rfl) (by kernel_rfl) (fun _ _ _ h => h) (by rfl) (fun wz hS => ?_) K_0.out ?_
  · skip
    go_simp
  go_frame
  refine h_all1 (i := 5) (by kernel_rfl) ?_
  refine o_step rfl (by rfl) ?_
  refine wp_val (.agg cx) (ex_load_row 61 (.tmp 9) rfl b9 rfl _ cx _ _ X_0.out Try.underlying61 rfl (xinfo SX.out)) ?_
  refine ⟨K_0.out, ?_⟩
  go_frame
  refine h_all1 (i := 7) (by kernel_rfl) ?_
  refine o_call (f := 55) (args := #[.agg cx, .int .i64 (j : Nat)]) rfl (by rfl) (by go_simp) ?_
  refine (HC1.out _).mono ?_
  rintro e w1 ⟨rfl, bb⟩
  have K_c1 := Lib.hid (K_0.out.below bb)
  have X_c1 := Lib.hid (X_0.out.below bb)
  have B_c1 := Lib.hid (below_add B_0.out bb B_0.out.size)
  have R_c1 := Lib.hid (R_0.out.below bb)
  clear bb
  refine ⟨_, rfl, K_c1.out, ?_⟩
  go_frame
  refine h_val (i := 8) (v := .tuple #[.agg ca1, .agg cb1]) rfl (by kernel_rfl) (by kernel_rfl) (by kernel_rfl) (fun _ _ _ h => h) (by rfl) (fun wz hS => ?_) K_c1.out ?_
  · skip
    go_simp
  go_frame
  refine h_val (i := 9) (v := .agg ca1) rfl (by kernel_rfl) (by kernel_rfl) (by kernel_rfl) (fun _ _ _ h => h) (by rfl) (fun wz hS => ?_) K_c1.out ?_
  · skip
    go_simp
  go_frame
  refine h_val (i := 10) (v := .agg cb1) rfl (by kernel_rfl) (by kernel_rfl) (by kernel_rfl) (fun _ _ _ h => h) (by rfl) (fun wz hS => ?_) K_c1.out ?_
  · skip
    go_simp
  go_frame
  refine h_all1 (i := 11) (by kernel_rfl) ?_
  refine o_step rfl (by rfl) ?_
  refine wp_store_row 61 (.tmp 9) (.tmp 27) rfl b9 ca1 rfl rfl _ _ X_c1.out (xinfo SA.out) (by rw [SX.out, SA.out]) OA.out ?_
  have K_s1 := Lib.hid (K_c1.out.other (c := b9) (by have := ZT.out; have := Z9.out; omega) ca1)
  have X_s1 := Lib.hid (X_c1.out.set ca1)
  have R_s1 := Lib.hid (R_c1.out.other (c := b9) (by have := Z9.out; omega) ca1)
  have B_s1 := Lib.hid (below_row (cs := ca1) B_c1.out (show w.heap.size ≤ b9 by have := Z9.out; omega))
  refine ⟨K_s1.out, ?_⟩
  go_frame
  refine h_done (by kernel_rfl) ?_
  go_wp2_with (first
    | (refine wpList_load_roww 61 (.tmp 9) rfl b9 rfl (by rfl) _ _ _ _ X_s1.out Try.underlying61 rfl (xinfo SA.out) ?_)
    | (refine wpList_store_row rfl 61 (.tmp 8) (.tmp 42) rfl (w.heap.size + 1) ca1 rfl rfl _ _ R_s1.out (xinfo SA.out) (by rw [SA.out]; exact xz_size) OA.out ?_))
  exact bodyPost_ret (results_cell_row Try.results60 _ _ _ _ _ _ _ rfl (R_s1.out.set ca1) Try.underlying61 rfl (xinfo SA.out)) rfl ⟨rfl, below_row B_s1.out (by omega)⟩
end
end Go.Proofs.Yteodfbkfpboehaa

/- UG -/
/- UG: what of a leaf's thing stands behind a place -/
namespace Go.Proofs.Yteodfbkfpboehaa
open Go.RowKit
set_option linter.unusedVariables false
set_option maxRecDepth 100000
section
variable {D : Sv → Prop} {S : Nat → Prop} {tb an cn : Nat} {U V : Nat → Prop} {root : Int} {A : ArS Nd} {C : ArS Ck} {w w' W : World}
set_option maxHeartbeats 1000000 in
theorem between_start (h : TrM D S tb an cn U V root A C w) (M : Nd) (x : Ck) (hx : ∃ k : Nat, M.thing = (k : Nat) ∧ C.at_ k = some x) (hl : M.len = (x.n : Nat)) (hb : x.n ≤ 10000000000) (i : Nat) (j : Int) (hi : 0 < i) (hi2 : i ≤ x.n) (hj : (x.n : Nat) ≤ j) :
    Calls Try.prog 60 #[.pointer (some ⟨tb, 0, none⟩), ndv M, .int .i64 (i : Nat), .int .i64 j] w fun e w' => e = .returned (cvs (cutB x i)) ∧ Below w.heap.size w w' := by
  have HTH := Lib.hid (fun (w' : World) (hb : Below w.heap.size w w') => thing_any (h.below hb) M x (.inl hx))
  have HT := Lib.hid (fun (w' : World) (hb : Below w.heap.size w w') => (h.below hb).cb)
  have ZT := Lib.hid h.lt
  obtain ⟨ca1, cb1, hca, hcb, sa, sb, oa, ob, hcut⟩ := cut_row x i (by omega) hb
  have SX := Lib.hid (xc_size x)
  have OX := Lib.hid (krow_one x)
  unfold cvs at *
  rw [hcb]
  obtain ⟨q, hq⟩ : ∃ q : Int, ((i : Nat) : Int) = q := ⟨_, rfl⟩
  rw [hq] at hcut ⊢
  obtain ⟨cx, hcx⟩ : ∃ cx, krow x = cx := ⟨_, rfl⟩
  rw [hcx] at HTH hcut SX OX
  have HC1 := Lib.hid hcut
  have SA := Lib.hid sb
  have OA := Lib.hid ob
  have d1 : decide (j < M.len) = false := decide_eq_false (by omega)
  have d2 : decide ((0 : Int) < q) = true := decide_eq_true (by omega)
  clear h hb hx hl hca hcb sa sb oa ob hcut hcx hi hj hi2 hq
  go_enter Try.func60, Try.ntmps60
  go_upto_region 1 with fail
  refine with_worldT (fun W => Cb w.heap.size 102 (ndc M) W ∧ Cb (w.heap.size + 1) 61 czr W ∧ Below w.heap.size w W) ⟨(cb_new w _ _).alloc _, cb2_last w (ndc M), ((Below.refl _ w).alloc (Nat.le_refl _) _).alloc (by simp) _⟩ fun W0 hW0 => ?_
  have N0 := Lib.hid hW0.1
  have R0 := Lib.hid hW0.2.1
  have B0 := Lib.hid hW0.2.2
  clear hW0
  go_upto_region 5 with (first
    | (refine wpList_load_roww 102 (.tmp 5) rfl w.heap.size rfl (by rfl) _ _ _ _ N0.out Try.underlying102 rfl (ninfo M) ?_)
    | (go_at_call 59; refine (HTH.out _ B0.out).mono ?_; rintro e w1 ⟨rfl, b1⟩; have N1 := Lib.hid ((N0.out.below b1).alloc (.cells czr 61)); have R1 := Lib.hid ((R0.out.below b1).alloc (.cells czr 61)); have B1 := Lib.hid ((below_add B0.out b1 B0.out.size).alloc (by have := B0.out.size; have := b1.size; omega) (.cells czr 61)); have V1 := Lib.hid (cb_new w1 61 czr); have Z1 := Lib.hid (show w.heap.size + 1 < w1.heap.size from Nat.lt_of_lt_of_le R0.out.lt b1.size); clear b1)
    | (refine wpList_store_row rfl 61 (.tmp 9) (.tmp 12) rfl w1.heap.size cx rfl rfl _ _ V1.out (xinfo SX.out) (by rw [SX.out]; exact xz_size) OX.out ?_; refine with_worldTL (fun W => Cb w.heap.size 102 (ndc M) W ∧ Cb (w.heap.size + 1) 61 czr W ∧ Cb w1.heap.size 61 cx W ∧ Below w.heap.size w W) ⟨N1.out.other (by have := Z1.out; omega) _, R1.out.other (by have := Z1.out; omega) _, V1.out.set _, below_row B1.out (by have := Z1.out; omega)⟩ fun W1 hW1 => ?_; have c2 : W1.cell? ⟨w.heap.size, 2, none⟩ = some (.int .i64 M.len) := hW1.1.cell 2; have R2 := Lib.hid hW1.2.1; have X2 := Lib.hid hW1.2.2.1; have B2 := Lib.hid hW1.2.2.2; clear hW1))
  have K_0 := Lib.hid ((HT.out _ B2.out).below (below_drew W1))
  have xx := X2.out.below (below_drew W1)
  have R_0 := Lib.hid (R2.out.below (below_drew W1))
  have B_0 := Lib.hid B2.out.drew
  have zz := Z1.out
  obtain ⟨b9, hb9⟩ : ∃ b9, w1.heap.size = b9 := ⟨_, rfl⟩
  refine Hid.out ?_
  rw [hb9] at xx zz ⊢
  refine Lib.hid ?_
  have X_0 := Lib.hid xx
  have Z9 := Lib.hid zz
  clear xx zz hb9 Z1 X2 R2 B2 c2 N0 R0 B0 N1 R1 B1 V1
  refine h_start (S := fun W => Cb tb 92 (tcs an cn root) W) (by kernel_rfl) ?_
  refine h_val (i := 0) (v := .pointer (some ⟨tb, 0, none⟩)) rfl (by kernel_rfl) (by kernel_rfl) (by kernel_rfl) (fun _ _ _ h => h) (by rfl) (fun wz hS => ?_) K_0.out ?_
  · skip
    go_simp
  go_frame
  refine h_val (i := 1) (v := .pointer (some ⟨tb, 0, none⟩)) rfl (by kernel_rfl) (by kernel_rfl) (by kernel_rfl) (fun _ _ _ h => h) (by rfl) (fun wz hS => ?_) K_0.out ?_
  · skip
    go_simp
  go_frame
  refine h_val (i := 2) (v := .pointer (some ⟨tb, 0, none⟩)) rfl (by kernel_rfl) (by kernel_rfl) (by kernel_rfl) (fun _ _ _ h => h) (by rfl) (fun wz hS => ?_) K_0.out ?_
  · skip
    go_simp
  go_frame
  refine h_val (i := 3) (v := .pointer (some ⟨tb, 1, none⟩)) rfl (by kernel_rfl) (by kernel_rfl) (by kernel_rfl) (fun _ _ _ h => h) (by rfl) (fun wz hS => ?_) K_0.out ?_
  · skip
    go_simp
  go_frame
  refine h_val (i := 4) (v := .func (.func 55) #[] #[]) rfl (by kernel_rfl) (by kernel_rfl) (by kernel_rfl) (fun _ _ _ h => h) (by rfl) (fun wz hS => ?_) K_0.out ?_
  · skip
    have q : wz.cell? ⟨tb, 1, none⟩ = some (.func (.func 55) #[] #[]) := hS.cell 1
    go_simp
  go_frame
  refine h_val (i := 6) (v := .int .i64 q) rfl (by kernel_rfl) (by kernel_rfl) (by kernel_rfl) (fun _ _ _ h => h) (by rfl) (fun wz hS => ?_) K_0.out ?_
  · skip
    go_simp
  go_frame
  refine h_all1 (i := 5) (by kernel_rfl) ?_
  refine o_step rfl (by rfl) ?_
  refine wp_val (.agg cx) (ex_load_row 61 (.tmp 9) rfl b9 rfl _ cx _ _ X_0.out Try.underlying61 rfl (xinfo SX.out)) ?_
  refine ⟨K_0.out, ?_⟩
  go_frame
  refine h_all1 (i := 7) (by kernel_rfl) ?_
  refine o_call (f := 55) (args := #[.agg cx, .int .i64 q]) rfl (by rfl) (by go_simp) ?_
  refine (HC1.out _).mono ?_
  rintro e w1 ⟨rfl, bb⟩
  have K_c1 := Lib.hid (K_0.out.below bb)
  have X_c1 := Lib.hid (X_0.out.below bb)
  have B_c1 := Lib.hid (below_add B_0.out bb B_0.out.size)
  have R_c1 := Lib.hid (R_0.out.below bb)
  clear bb
  refine ⟨_, rfl, K_c1.out, ?_⟩
  go_frame
  refine h_val (i := 8) (v := .tuple #[.agg ca1, .agg cb1]) rfl (by kernel_rfl) (by kernel_rfl) (by kernel_rfl) (fun _ _ _ h => h) (by rfl) (fun wz hS => ?_) K_c1.out ?_
  · skip
    go_simp
  go_frame
  refine h_val (i := 9) (v := .agg ca1) rfl (by kernel_rfl) (by kernel_rfl) (by kernel_rfl) (fun _ _ _ h => h) (by rfl) (fun wz hS => ?_) K_c1.out ?_
  · skip
    go_simp
  go_frame
  refine h_val (i := 10) (v := .agg cb1) rfl (by kernel_rfl) (by kernel_rfl) (by kernel_rfl) (fun _ _ _ h => h) (by rfl) (fun wz hS => ?_) K_c1.out ?_
  · skip
    go_simp
  go_frame
  refine h_all1 (i := 11) (by kernel_rfl) ?_
  refine o_step rfl (by rfl) ?_
  refine wp_store_row 61 (.tmp 9) (.tmp 41) rfl b9 cb1 rfl rfl _ _ X_c1.out (xinfo SA.out) (by rw [SX.out, SA.out]) OA.out ?_
  have K_s1 := Lib.hid (K_c1.out.other (c := b9) (by have := ZT.out; have := Z9.out; omega) cb1)
  have X_s1 := Lib.hid (X_c1.out.set cb1)
  have R_s1 := Lib.hid (R_c1.out.other (c := b9) (by have := Z9.out; omega) cb1)
  have B_s1 := Lib.hid (below_row (cs := cb1) B_c1.out (show w.heap.size ≤ b9 by have := Z9.out; omega))
  refine ⟨K_s1.out, ?_⟩
  go_frame
  refine h_done (by kernel_rfl) ?_
  go_wp2_with (first
    | (refine wpList_load_roww 61 (.tmp 9) rfl b9 rfl (by rfl) _ _ _ _ X_s1.out Try.underlying61 rfl (xinfo SA.out) ?_)
    | (refine wpList_store_row rfl 61 (.tmp 8) (.tmp 42) rfl (w.heap.size + 1) cb1 rfl rfl _ _ R_s1.out (xinfo SA.out) (by rw [SA.out]; exact xz_size) OA.out ?_))
  exact bodyPost_ret (results_cell_row Try.results60 _ _ _ _ _ _ _ rfl (R_s1.out.set cb1) Try.underlying61 rfl (xinfo SA.out)) rfl ⟨rfl, below_row B_s1.out (by omega)⟩
end
end Go.Proofs.Yteodfbkfpboehaa

/- UH -/
/- UH: all of a leaf's thing -/
namespace Go.Proofs.Yteodfbkfpboehaa
open Go.RowKit
set_option linter.unusedVariables false
set_option maxRecDepth 100000
section
variable {D : Sv → Prop} {S : Nat → Prop} {tb an cn : Nat} {U V : Nat → Prop} {root : Int} {A : ArS Nd} {C : ArS Ck} {w w' W : World}
set_option maxHeartbeats 1000000 in
theorem between_all (h : TrM D S tb an cn U V root A C w) (M : Nd) (x : Ck) (hx : ∃ k : Nat, M.thing = (k : Nat) ∧ C.at_ k = some x) (hl : M.len = (x.n : Nat)) (hb : x.n ≤ 10000000000) (i j : Int) (hi : i ≤ 0) (hj : (x.n : Nat) ≤ j) :
    Calls Try.prog 60 #[.pointer (some ⟨tb, 0, none⟩), ndv M, .int .i64 i, .int .i64 j] w fun e w' => e = .returned (cvs x) ∧ Below w.heap.size w w' := by
  have HTH := Lib.hid (fun (w' : World) (hb : Below w.heap.size w w') => thing_any (h.below hb) M x (.inl hx))
  have HT := Lib.hid (fun (w' : World) (hb : Below w.heap.size w w') => (h.below hb).cb)
  have ZT := Lib.hid h.lt
  have SX := Lib.hid (xc_size x)
  have OX := Lib.hid (krow_one x)
  unfold cvs at *
  obtain ⟨cx, hcx⟩ : ∃ cx, krow x = cx := ⟨_, rfl⟩
  rw [hcx] at HTH SX OX ⊢
  have d1 : decide (j < M.len) = false := decide_eq_false (by omega)
  have d2 : decide ((0 : Int) < i) = false := decide_eq_false (by omega)
  clear h hb hx hl hcx hi hj
  go_enter Try.func60, Try.ntmps60
  go_upto_region 1 with fail
  refine with_worldT (fun W => Cb w.heap.size 102 (ndc M) W ∧ Cb (w.heap.size + 1) 61 czr W ∧ Below w.heap.size w W) ⟨(cb_new w _ _).alloc _, cb2_last w (ndc M), ((Below.refl _ w).alloc (Nat.le_refl _) _).alloc (by simp) _⟩ fun W0 hW0 => ?_
  have N0 := Lib.hid hW0.1
  have R0 := Lib.hid hW0.2.1
  have B0 := Lib.hid hW0.2.2
  clear hW0
  go_wp2_with (first
    | (refine wpList_load_roww 102 (.tmp 5) rfl w.heap.size rfl (by rfl) _ _ _ _ N0.out Try.underlying102 rfl (ninfo M) ?_)
    | (go_at_call 59; refine (HTH.out _ B0.out).mono ?_; rintro e w1 ⟨rfl, b1⟩; have N1 := Lib.hid ((N0.out.below b1).alloc (.cells czr 61)); have R1 := Lib.hid ((R0.out.below b1).alloc (.cells czr 61)); have B1 := Lib.hid ((below_add B0.out b1 B0.out.size).alloc (by have := B0.out.size; have := b1.size; omega) (.cells czr 61)); have V1 := Lib.hid (cb_new w1 61 czr); have Z1 := Lib.hid (show w.heap.size + 1 < w1.heap.size from Nat.lt_of_lt_of_le R0.out.lt b1.size); clear b1)
    | (refine wpList_store_row rfl 61 (.tmp 9) (.tmp 12) rfl w1.heap.size cx rfl rfl _ _ V1.out (xinfo SX.out) (by rw [SX.out]; exact xz_size) OX.out ?_; refine with_worldTL (fun W => Cb w.heap.size 102 (ndc M) W ∧ Cb (w.heap.size + 1) 61 czr W ∧ Cb w1.heap.size 61 cx W ∧ Below w.heap.size w W) ⟨N1.out.other (by have := Z1.out; omega) _, R1.out.other (by have := Z1.out; omega) _, V1.out.set _, below_row B1.out (by have := Z1.out; omega)⟩ fun W1 hW1 => ?_; have c2 : W1.cell? ⟨w.heap.size, 2, none⟩ = some (.int .i64 M.len) := hW1.1.cell 2; have R2 := Lib.hid hW1.2.1; have X2 := Lib.hid hW1.2.2.1; have B2 := Lib.hid hW1.2.2.2; clear hW1)
    | (refine wpList_load_roww 61 (.tmp 9) rfl w1.heap.size rfl (by rfl) _ _ _ _ X2.out Try.underlying61 rfl (xinfo SX.out) ?_)
    | (refine wpList_store_row rfl 61 (.tmp 8) (.tmp 42) rfl (w.heap.size + 1) cx rfl rfl _ _ R2.out (xinfo SX.out) (by rw [SX.out]; exact xz_size) OX.out ?_))
  exact bodyPost_ret (results_cell_row Try.results60 _ _ _ _ _ _ _ rfl (R2.out.set cx) Try.underlying61 rfl (xinfo SX.out)) rfl ⟨rfl, below_row B2.out (by omega)⟩
end
end Go.Proofs.Yteodfbkfpboehaa

/- UI -/
/- UI: what of a leaf's thing stands between two places that are both within -/
namespace Go.Proofs.Yteodfbkfpboehaa
open Go.RowKit
set_option linter.unusedVariables false
set_option maxRecDepth 100000
section
variable {D : Sv → Prop} {S : Nat → Prop} {tb an cn : Nat} {U V : Nat → Prop} {root : Int} {A : ArS Nd} {C : ArS Ck} {w w' W : World}
set_option maxHeartbeats 1000000 in
theorem between_both (h : TrM D S tb an cn U V root A C w) (M : Nd) (x : Ck) (hx : ∃ k : Nat, M.thing = (k : Nat) ∧ C.at_ k = some x) (hl : M.len = (x.n : Nat)) (hb : x.n ≤ 10000000000) (i j : Nat) (hi : 0 < i) (hi2 : i ≤ j) (hj : j < x.n) :
    Calls Try.prog 60 #[.pointer (some ⟨tb, 0, none⟩), ndv M, .int .i64 (i : Nat), .int .i64 (j : Nat)] w fun e w' => e = .returned (cvs (cutB (cutA x j) i)) ∧ Below w.heap.size w w' := by
  have HTH := Lib.hid (fun (w' : World) (hb : Below w.heap.size w w') => thing_any (h.below hb) M x (.inl hx))
  have HT := Lib.hid (fun (w' : World) (hb : Below w.heap.size w w') => (h.below hb).cb)
  have ZT := Lib.hid h.lt
  obtain ⟨ca1, cb1, hca, hcb, sa, sb, oa, ob, hcut⟩ := cut_row x j (by omega) hb
  obtain ⟨ca2, cb2, hca2, hcb2, sa2, sb2, oa2, ob2, hcut2⟩ := cut_row (cutA x j) i hi2 (show j ≤ 10000000000 by omega)
  rw [hca] at hcut2
  have SX := Lib.hid (xc_size x)
  have OX := Lib.hid (krow_one x)
  unfold cvs at *
  rw [hcb2]
  obtain ⟨q, hq⟩ : ∃ q : Int, ((i : Nat) : Int) = q := ⟨_, rfl⟩
  rw [hq] at hcut2 ⊢
  obtain ⟨cx, hcx⟩ : ∃ cx, krow x = cx := ⟨_, rfl⟩
  rw [hcx] at HTH hcut SX OX
  have HC1 := Lib.hid hcut
  have SA := Lib.hid sa
  have OA := Lib.hid oa
  have HC2 := Lib.hid hcut2
  have SB := Lib.hid sb2
  have OB := Lib.hid ob2
  have d1 : decide (((j : Nat) : Int) < M.len) = true := decide_eq_true (by omega)
  have d2 : decide ((0 : Int) < q) = true := decide_eq_true (by omega)
  clear h hb hx hl hca hcb sa sb oa ob hcut hcx hi hj hi2 hq hca2 hcb2 sa2 sb2 oa2 ob2 hcut2
  go_enter Try.func60, Try.ntmps60
  go_upto_region 1 with fail
  refine with_worldT (fun W => Cb w.heap.size 102 (ndc M) W ∧ Cb (w.heap.size + 1) 61 czr W ∧ Below w.heap.size w W) ⟨(cb_new w _ _).alloc _, cb2_last w (ndc M), ((Below.refl _ w).alloc (Nat.le_refl _) _).alloc (by simp) _⟩ fun W0 hW0 => ?_
  have N0 := Lib.hid hW0.1
  have R0 := Lib.hid hW0.2.1
  have B0 := Lib.hid hW0.2.2
  clear hW0
  go_upto_region 3 with (first
    | (refine wpList_load_roww 102 (.tmp 5) rfl w.heap.size rfl (by rfl) _ _ _ _ N0.out Try.underlying102 rfl (ninfo M) ?_)
    | (go_at_call 59; refine (HTH.out _ B0.out).mono ?_; rintro e w1 ⟨rfl, b1⟩; have N1 := Lib.hid ((N0.out.below b1).alloc (.cells czr 61)); have R1 := Lib.hid ((R0.out.below b1).alloc (.cells czr 61)); have B1 := Lib.hid ((below_add B0.out b1 B0.out.size).alloc (by have := B0.out.size; have := b1.size; omega) (.cells czr 61)); have V1 := Lib.hid (cb_new w1 61 czr); have Z1 := Lib.hid (show w.heap.size + 1 < w1.heap.size from Nat.lt_of_lt_of_le R0.out.lt b1.size); clear b1)
    | (refine wpList_store_row rfl 61 (.tmp 9) (.tmp 12) rfl w1.heap.size cx rfl rfl _ _ V1.out (xinfo SX.out) (by rw [SX.out]; exact xz_size) OX.out ?_; refine with_worldTL (fun W => Cb w.heap.size 102 (ndc M) W ∧ Cb (w.heap.size + 1) 61 czr W ∧ Cb w1.heap.size 61 cx W ∧ Below w.heap.size w W) ⟨N1.out.other (by have := Z1.out; omega) _, R1.out.other (by have := Z1.out; omega) _, V1.out.set _, below_row B1.out (by have := Z1.out; omega)⟩ fun W1 hW1 => ?_; have c2 : W1.cell? ⟨w.heap.size, 2, none⟩ = some (.int .i64 M.len) := hW1.1.cell 2; have R2 := Lib.hid hW1.2.1; have X2 := Lib.hid hW1.2.2.1; have B2 := Lib.hid hW1.2.2.2; clear hW1))
  have K_0 := Lib.hid ((HT.out _ B2.out).below (below_drew W1))
  have xx := X2.out.below (below_drew W1)
  have R_0 := Lib.hid (R2.out.below (below_drew W1))
  have B_0 := Lib.hid B2.out.drew
  have zz := Z1.out
  obtain ⟨b9, hb9⟩ : ∃ b9, w1.heap.size = b9 := ⟨_, rfl⟩
  refine Hid.out ?_
  rw [hb9] at xx zz ⊢
  refine Lib.hid ?_
  have X_0 := Lib.hid xx
  have Z9 := Lib.hid zz
  clear xx zz hb9 Z1 X2 R2 B2 c2 N0 R0 B0 N1 R1 B1 V1
  refine h_start (S := fun W => Cb tb 92 (tcs an cn root) W) (by kernel_rfl) ?_
  refine h_val (i := 0) (v := .pointer (some ⟨tb, 0, none⟩)) rfl (by kernel_rfl) (by kernel_rfl) (by kernel_rfl) (fun _ _ _ h => h) (by rfl) (fun wz hS => ?_) K_0.out ?_
  · skip
    go_simp
  go_frame
  refine h_val (i := 1) (v := .pointer (some ⟨tb, 0, none⟩)) rfl (by kernel_rfl) (by kernel_rfl) (by kernel_rfl) (fun _ _ _ h => h) (by rfl) (fun wz hS => ?_) K_0.out ?_
  · skip
    go_simp
  go_frame
  refine h_val (i := 2) (v := .pointer (some ⟨tb, 0, none⟩)) rfl (by kernel_rfl) (by kernel_rfl) (by kernel_rfl) (fun _ _ _ h => h) (by rfl) (fun wz hS => ?_) K_0.out ?_
  · skip
    go_simp
  go_frame
  refine h_val (i := 3) (v := .pointer (some ⟨tb, 1, none⟩)) rfl (by kernel_rfl) (by kernel_rfl) (by kernel_rfl) (fun _ _ _ h => h) (by rfl) (fun wz hS => ?_) K_0.out ?_
  · skip
    go_simp
  go_frame
  refine h_val (i := 4) (v := .func (.func 55) #[] #[]) rfl (by kernel_rfl) (by kernel_rfl) (by kernel_rfl) (fun _ _ _ h => h) (by rfl) (fun wz hS => ?_) K_0.out ?_
  · skip
    have q : wz.cell? ⟨tb, 1, none⟩ = some (.func (.func 55) #[] #[]) := hS.cell 1
    go_simp
  go_frame
  refine h_val (i := 6) (v := .int .i64 (j : Nat)) rfl (by kernel_rfl) (by kernel_rfl) (by kernel_rfl) (fun _ _ _ h => h) (by rfl) (fun wz hS => ?_) K_0.out ?_
  · skip
    go_simp
  go_frame
  refine h_all1 (i := 5) (by kernel_rfl) ?_
  refine o_step rfl (by rfl) ?_
  refine wp_val (.agg cx) (ex_load_row 61 (.tmp 9) rfl b9 rfl _ cx _ _ X_0.out Try.underlying61 rfl (xinfo SX.out)) ?_
  refine ⟨K_0.out, ?_⟩
  go_frame
  refine h_all1 (i := 7) (by kernel_rfl) ?_
  refine o_call (f := 55) (args := #[.agg cx, .int .i64 (j : Nat)]) rfl (by rfl) (by go_simp) ?_
  refine (HC1.out _).mono ?_
  rintro e w1 ⟨rfl, bb⟩
  have K_c1 := Lib.hid (K_0.out.below bb)
  have X_c1 := Lib.hid (X_0.out.below bb)
  have B_c1 := Lib.hid (below_add B_0.out bb B_0.out.size)
  have R_c1 := Lib.hid (R_0.out.below bb)
  clear bb
  refine ⟨_, rfl, K_c1.out, ?_⟩
  go_frame
  refine h_val (i := 8) (v := .tuple #[.agg ca1, .agg cb1]) rfl (by kernel_rfl) (by kernel_rfl) (by kernel_rfl) (fun _ _ _ h => h) (by rfl) (fun wz hS => ?_) K_c1.out ?_
  · skip
    go_simp
  go_frame
  refine h_val (i := 9) (v := .agg ca1) rfl (by kernel_rfl) (by kernel_rfl) (by kernel_rfl) (fun _ _ _ h => h) (by rfl) (fun wz hS => ?_) K_c1.out ?_
  · skip
    go_simp
  go_frame
  refine h_val (i := 10) (v := .agg cb1) rfl (by kernel_rfl) (by kernel_rfl) (by kernel_rfl) (fun _ _ _ h => h) (by rfl) (fun wz hS => ?_) K_c1.out ?_
  · skip
    go_simp
  go_frame
  refine h_all1 (i := 11) (by kernel_rfl) ?_
  refine o_step rfl (by rfl) ?_
  refine wp_store_row 61 (.tmp 9) (.tmp 27) rfl b9 ca1 rfl rfl _ _ X_c1.out (xinfo SA.out) (by rw [SX.out, SA.out]) OA.out ?_
  have K_s1 := Lib.hid (K_c1.out.other (c := b9) (by have := ZT.out; have := Z9.out; omega) ca1)
  have X_s1 := Lib.hid (X_c1.out.set ca1)
  have R_s1 := Lib.hid (R_c1.out.other (c := b9) (by have := Z9.out; omega) ca1)
  have B_s1 := Lib.hid (below_row (cs := ca1) B_c1.out (show w.heap.size ≤ b9 by have := Z9.out; omega))
  refine ⟨K_s1.out, ?_⟩
  go_frame
  refine h_done (by kernel_rfl) ?_
  go_upto_region 5 with fail
  have K_5 := Lib.hid (K_s1.out.below (below_drew _))
  have X_5 := Lib.hid (X_s1.out.below (below_drew _))
  have R_5 := Lib.hid (R_s1.out.below (below_drew _))
  have B_5 := Lib.hid B_s1.out.drew
  refine h_start (S := fun W => Cb tb 92 (tcs an cn root) W) (by kernel_rfl) ?_
  refine h_val (i := 0) (v := .pointer (some ⟨tb, 0, none⟩)) rfl (by kernel_rfl) (by kernel_rfl) (by kernel_rfl) (fun _ _ _ h => h) (by rfl) (fun wz hS => ?_) K_5.out ?_
  · skip
    go_simp
  go_frame
  refine h_val (i := 1) (v := .pointer (some ⟨tb, 0, none⟩)) rfl (by kernel_rfl) (by kernel_rfl) (by kernel_rfl) (fun _ _ _ h => h) (by rfl) (fun wz hS => ?_) K_5.out ?_
  · skip
    go_simp
  go_frame
  refine h_val (i := 2) (v := .pointer (some ⟨tb, 0, none⟩)) rfl (by kernel_rfl) (by kernel_rfl) (by kernel_rfl) (fun _ _ _ h => h) (by rfl) (fun wz hS => ?_) K_5.out ?_
  · skip
    go_simp
  go_frame
  refine h_val (i := 3) (v := .pointer (some ⟨tb, 1, none⟩)) rfl (by kernel_rfl) (by kernel_rfl) (by kernel_rfl) (fun _ _ _ h => h) (by rfl) (fun wz hS => ?_) K_5.out ?_
  · skip
    go_simp
  go_frame
  refine h_val (i := 4) (v := .func (.func 55) #[] #[]) rfl (by kernel_rfl) (by kernel_rfl) (by kernel_rfl) (fun _ _ _ h => h) (by rfl) (fun wz hS => ?_) K_5.out ?_
  · skip
    have q : wz.cell? ⟨tb, 1, none⟩ = some (.func (.func 55) #[] #[]) := hS.cell 1
    go_simp
  go_frame
  refine h_val (i := 6) (v := .int .i64 q) rfl (by kernel_rfl) (by kernel_rfl) (by kernel_rfl) (fun _ _ _ h => h) (by rfl) (fun wz hS => ?_) K_5.out ?_
  · skip
    go_simp
  go_frame
  refine h_all1 (i := 5) (by kernel_rfl) ?_
  refine o_step rfl (by rfl) ?_
  refine wp_val (.agg ca1) (ex_load_row 61 (.tmp 9) rfl b9 rfl _ ca1 _ _ X_5.out Try.underlying61 rfl (xinfo SA.out)) ?_
  refine ⟨K_5.out, ?_⟩
  go_frame
  refine h_all1 (i := 7) (by kernel_rfl) ?_
  refine o_call (f := 55) (args := #[.agg ca1, .int .i64 q]) rfl (by rfl) (by go_simp) ?_
  refine (HC2.out _).mono ?_
  rintro e w2 ⟨rfl, bb⟩
  have K_c2 := Lib.hid (K_5.out.below bb)
  have X_c2 := Lib.hid (X_5.out.below bb)
  have B_c2 := Lib.hid (below_add B_5.out bb B_5.out.size)
  have R_c2 := Lib.hid (R_5.out.below bb)
  clear bb
  refine ⟨_, rfl, K_c2.out, ?_⟩
  go_frame
  refine h_val (i := 8) (v := .tuple #[.agg ca2, .agg cb2]) rfl (by kernel_rfl) (by kernel_rfl) (by kernel_rfl) (fun _ _ _ h => h) (by rfl) (fun wz hS => ?_) K_c2.out ?_
  · skip
    go_simp
  go_frame
  refine h_val (i := 9) (v := .agg ca2) rfl (by kernel_rfl) (by kernel_rfl) (by kernel_rfl) (fun _ _ _ h => h) (by rfl) (fun wz hS => ?_) K_c2.out ?_
  · skip
    go_simp
  go_frame
  refine h_val (i := 10) (v := .agg cb2) rfl (by kernel_rfl) (by kernel_rfl) (by kernel_rfl) (fun _ _ _ h => h) (by rfl) (fun wz hS => ?_) K_c2.out ?_
  · skip
    go_simp
  go_frame
  refine h_all1 (i := 11) (by kernel_rfl) ?_
  refine o_step rfl (by rfl) ?_
  refine wp_store_row 61 (.tmp 9) (.tmp 41) rfl b9 cb2 rfl rfl _ _ X_c2.out (xinfo SB.out) (by rw [SA.out, SB.out]) OB.out ?_
  have K_s2 := Lib.hid (K_c2.out.other (c := b9) (by have := ZT.out; have := Z9.out; omega) cb2)
  have X_s2 := Lib.hid (X_c2.out.set cb2)
  have R_s2 := Lib.hid (R_c2.out.other (c := b9) (by have := Z9.out; omega) cb2)
  have B_s2 := Lib.hid (below_row (cs := cb2) B_c2.out (show w.heap.size ≤ b9 by have := Z9.out; omega))
  refine ⟨K_s2.out, ?_⟩
  go_frame
  refine h_done (by kernel_rfl) ?_
  go_wp2_with (first
    | (refine wpList_load_roww 61 (.tmp 9) rfl b9 rfl (by rfl) _ _ _ _ X_s2.out Try.underlying61 rfl (xinfo SB.out) ?_)
    | (refine wpList_store_row rfl 61 (.tmp 8) (.tmp 42) rfl (w.heap.size + 1) cb2 rfl rfl _ _ R_s2.out (xinfo SB.out) (by rw [SB.out]; exact xz_size) OB.out ?_))
  exact bodyPost_ret (results_cell_row Try.results60 _ _ _ _ _ _ _ rfl (R_s2.out.set cb2) Try.underlying61 rfl (xinfo SB.out)) rfl ⟨rfl, below_row B_s2.out (by omega)⟩
end
end Go.Proofs.Yteodfbkfpboehaa
