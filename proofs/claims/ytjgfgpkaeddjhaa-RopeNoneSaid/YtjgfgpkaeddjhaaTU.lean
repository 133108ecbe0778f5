
import Derived.Test.YtjgfgpkaeddjhaaTS
/- TU: a tree of another one's arenas is made anew here -/
namespace Go.Proofs.Ytjgfgpkaeddjhaa
open Go.RowKit
set_option linter.unusedVariables false
set_option maxRecDepth 100000

theorem zero_int (w : World) : (zeroValue 3).run Try.prog w = .ok (.int .i64 0) w := by kernel_rfl
theorem lookup_empty {w : World} {mb : Nat} (h : w.heap[mb]? = some (.map #[] 0)) (i : Int) : (Instr.lookup 101 (.map (some mb)) (.int .i64 i) true).run Try.prog w = .ok (.tuple #[.int .i64 0, .bool false]) w := by
  have hg : (getObj mb).run Try.prog w = .ok (.map #[] 0) w := by simp [getObj, Sem.run, h]
  have hc : ∀ n, (Instr.checkKey true (n + 1) 3 (.int .i64 i)).run Try.prog w = .ok () w := fun n => by
    rw [Instr.checkKey, Sem.run_bind, run_underlying Try.underlying3]
    rfl
  have hk : (Instr.findKey 3 (.int .i64 i) []).run Try.prog w = .ok none w := by
    rw [Instr.findKey, Sem.run_bind, run_underlying Try.underlying3]
    rfl
  unfold Instr.lookup
  rw [Sem.run_bind, run_underlying Try.underlying101]
  simp only [Result.andThen_ok, Sem.run_bind, hg, Sem.run_pure]
  rw [show (10000 : Nat) = 9999 + 1 from rfl]
  simp only [Array.isEmpty, Array.size_empty, decide_true, hc, Result.andThen_ok, hk, zero_int, Sem.run_pure, if_true, Sem.run_bind]
theorem wpList_lookup_empty {ops : Array Oper} {rest : List Oper} {o : Oper} {a : Act} {w : World} {Q : Exit → Act → World → Prop} (hg : o.guard = none) (m x : Operand) (hop : o.op = Op.lookup 101 m x true)
    (mb : Nat) (i : Int) (hm : a.eval m = .map (some mb)) (hx : a.eval x = .int .i64 i) (h : w.heap[mb]? = some (.map #[] 0)) (hK : wpList Try.prog ops Q rest (a.put o.dst (.tuple #[.int .i64 0, .bool false])) w) : wpList Try.prog ops Q (o :: rest) a w := by
  refine wpList_plain hg fun K hK' => ?_
  have hrun : (execOp a.eval o).run Try.prog w = .ok (.value (.tuple #[.int .i64 0, .bool false])) w := by
    unfold execOp
    simp only [hop, hm, hx, Sem.run_bind, lookup_empty h, Result.andThen_ok, Sem.run_pure]
  unfold Oper.wp
  rw [hrun]
  exact hK' _ _ hK
section
variable {tb ob mb : Nat} {root : Int}
@[reducible] def AdoptQ (tb ob mb : Nat) (root : Int) (T : TC) : Prop := ∀ (Q : Nat) (S : Nat → Prop) (F : List TC) (w : World) (So : Nat → Prop) (an cn : Nat) (U V : Nat → Prop) (ro : Int) (A : ArS Nd) (C : ArS Ck), Sq Q S tb root F w → Up S w → TrM So ob an cn U V ro A C w → T.In Wc A C →
    (∀ k, So k → ¬ S k) → (∀ k, So k → k < w.heap.size) → w.heap[mb]? = some (.map #[] 0) → ¬ S mb → Q + (T.el Wc).length ≤ 400000 →
    Calls Try.prog 55 #[.pointer (some ⟨tb, 0, none⟩), .pointer (some ⟨ob, 0, none⟩), .int .i64 T.id, .map (some mb)] w fun e w' => ∃ T' : TC, e = .returned (.int .i64 T'.id) ∧ (T ≠ .nil → T' ≠ .nil) ∧ T'.el Wc = T.el Wc ∧ Sq (Q + (T.el Wc).length) S tb root (T' :: F) w' ∧ Off S w w'
theorem adopt_nil : AdoptQ tb ob mb root .nil := by
  intro Q S F w So an cn U V ro A C h hup ho hi hd hlt hm hmb hQ
  have HAT := Lib.hid (at_not_N ho.nodes (has_neg (show (Tr.id (Tr.nil : TC)) < 0 by decide)))
  obtain ⟨-, -, -, c3, -⟩ := ho.cells
  have H := Lib.hid h
  clear h hup ho hi hd hlt hm hmb hQ
  go_enter Try.func55, Try.ntmps55
  go_wp2_with (first
    | (go_at_call 77; refine HAT.out.mono ?_; rintro e w1 ⟨rfl, b1⟩; have B1 := Lib.hid (b1.alloc b1.size (.cells ndz 111)); have V1 := Lib.hid (cb_new w1 111 ndz); have B2 := Lib.hid (below_row (cs := ndc nd0) B1.out (b := w1.heap.size) b1.size); clear b1)
    | (refine wpList_store_row rfl 111 (.tmp 9) (.tmp 21) rfl w1.heap.size (ndc nd0) rfl rfl _ _ V1.out (ninfo nd0) rfl (none_n nd0) ?_))
  go_ret
  exact ⟨.nil, rfl, fun h => absurd rfl h, rfl, ⟨(H.out.1.below B2.out).nil, by have := H.out.2; rw [tot_cons]; simpa [Tr.el] using this⟩, Off.of_below B2.out⟩
set_option maxHeartbeats 4000000 in
theorem adopt_leaf (n t : Nat) (x : Ck) : AdoptQ tb ob mb root (Tr.leaf n t x : TC) := by
  intro Q S F w So an cn U V ro A C h hup ho hi hd hlt hm hmb hQ
  obtain ⟨Hh, Ln, Mk, li, ri, th, hM⟩ : ∃ Hh Ln Mk li ri th : Int, Tr.nd Wc (Tr.leaf n t x : TC) = ⟨1, Hh, Ln, Mk, li, ri, th⟩ := ⟨_, _, _, _, _, _, rfl⟩
  have hat := at_any (Tr.leaf n t x : TC) ho hi
  have hA := hi.1
  rw [hM] at hA
  have HAT := Lib.hid (ats_N ho.nodes hA)
  rw [show (Value.agg (K_N.c ⟨1, Hh, Ln, Mk, li, ri, th⟩).toArray) = ndv ⟨1, Hh, Ln, Mk, li, ri, th⟩ from rfl] at HAT
  obtain ⟨M, hMM⟩ : ∃ M : Nd, (⟨1, Hh, Ln, Mk, li, ri, th⟩ : Nd) = M := ⟨_, rfl⟩
  have hh1 : M.held = 1 := by rw [← hMM]
  have HH1 := Lib.hid hh1
  rw [hMM] at HAT hM
  have hf : Hid (∀ w, Calls Try.prog 69 #[ndv M] w fun e w' => e = .returned (.bool false) ∧ Below w.heap.size w w') := Lib.hid (fun w => by
    have := isfork_any M w
    rw [show decide (1 < M.height) = false by rw [← hM]; rfl] at this
    exact this)
  have hth : M.thing = (t : Nat) := by rw [← hM]; rfl
  have HTH := Lib.hid (fun (w' : World) (h' : TrM So ob an cn U V ro A C w') => thing_any h' M x (.inl ⟨t, hth, hi.2.1⟩))
  have HLF := Lib.hid (fun (S' : Nat → Prop) (w' : World) (h' : Sq Q S' tb root F w') (hup' : Up S' w') => leaf_q x h' hup' (show Q ≤ 400000 by omega))
  have HXP := Lib.hid hi.2.2
  unfold cv at HTH HLF
  obtain ⟨cx, hcx⟩ : ∃ cx, row (slots x.l) = cx := ⟨_, rfl⟩
  rw [hcx] at HTH HLF
  clear hcx hth
  obtain ⟨-, -, -, c3, -⟩ := ho.cells
  have H := Lib.hid h
  have HUP := Lib.hid hup
  have HOO := Lib.hid ho
  have HD := Lib.hid hd
  have HLT := Lib.hid hlt
  have HM := Lib.hid hm
  have HMB := Lib.hid hmb
  have HQ := Lib.hid hQ
  clear h hup ho hi hd hlt hm hmb hQ hat hA hM hMM hh1
  go_enter Try.func55, Try.ntmps55
  go_wp2_with (first
    | (go_at_call 77; refine HAT.out.mono ?_; rintro e w1 ⟨rfl, b1⟩; have B1 := Lib.hid (b1.alloc b1.size (.cells ndz 111)); have V1 := Lib.hid (cb_new w1 111 ndz); have V2 := Lib.hid (V1.out.set (ndc M)); have B2 := Lib.hid (below_row (cs := ndc M) B1.out (b := w1.heap.size) b1.size); have Z1 := Lib.hid b1.size; clear b1; have M2 := Lib.hid ((B2.out.block mb (lt_of_heap HM.out)).trans HM.out))
    | (refine wpList_store_row rfl 111 (.tmp 9) (.tmp 21) rfl w1.heap.size (ndc M) rfl rfl _ _ V1.out (ninfo M) rfl (none_n M) ?_)
    | (refine wpList_lookup_empty rfl _ _ rfl mb _ rfl rfl M2.out ?_)
    | (refine wpList_load_roww 111 (.tmp 9) rfl w1.heap.size rfl (by rfl) _ _ _ _ V2.out Try.underlying111 rfl (ninfo M) ?_)
    | (go_at_call 69; refine (hf.out _).mono ?_; clear hf; rintro e w2 ⟨rfl, b2⟩; have B3 := Lib.hid (below_add B2.out b2 B2.out.size); have V3 := Lib.hid (V2.out.below b2); clear b2)
    | (refine wpList_load_roww 111 (.tmp 9) rfl w1.heap.size rfl (by rfl) _ _ _ _ V3.out Try.underlying111 rfl (ninfo M) ?_)
    | (go_at_call 71; refine (HTH.out _ (HOO.out.below B3.out)).mono ?_; clear HTH; rintro e w3 ⟨rfl, b3⟩; have B4 := Lib.hid (below_add B3.out b3 B3.out.size); have V4 := Lib.hid (V3.out.below b3); clear b3)
    | (go_at_call 73; refine (HLF.out _ _ (H.out.loc B4.out) (loc_up S w w3)).mono ?_; rintro e w4 ⟨L, rfl, el, ss, oo⟩; have EL := Lib.hid el; have SS := Lib.hid (ss.mono (loc_sub HUP.out B4.out.size)); have OO := Lib.hid (Off.unloc HUP.out B4.out oo); have V5 := Lib.hid (V4.out.off oo (loc_not Z1.out V4.out.lt)); have c0 : _ = some (Value.int .i64 M.held) := V5.out.cell 0; rw [HH1.out] at c0; clear el ss oo))
  go_ret
  refine ⟨L, rfl, fun _ e => ?_, EL.out, SS.out, OO.out⟩
  have h1 := EL.out
  rw [e] at h1
  have h2 := HXP.out
  have h3 : (0 : Nat) = x.l.length := by rw [← h1]; rfl
  have h4 : (Wc.fl x).length = x.l.length := rfl
  omega
set_option maxHeartbeats 4000000 in
theorem adopt_fork (n : Nat) (l r : TC) (i1 : AdoptQ tb ob mb root l) (i2 : AdoptQ tb ob mb root r) : AdoptQ tb ob mb root (Tr.fork n l r : TC) := by
  intro Q S F w So an cn U V ro A C h hup ho hi hd hlt hm hmb hQ
  obtain ⟨Hh, Ln, Mk, li, ri, th, hM⟩ : ∃ Hh Ln Mk li ri th : Int, Tr.nd Wc (Tr.fork n l r : TC) = ⟨1, Hh, Ln, Mk, li, ri, th⟩ := ⟨_, _, _, _, _, _, rfl⟩
  have hat := at_any (Tr.fork n l r : TC) ho hi
  have hA := hi.1
  rw [hM] at hA
  have HAT := Lib.hid (ats_N ho.nodes hA)
  rw [show (Value.agg (K_N.c ⟨1, Hh, Ln, Mk, li, ri, th⟩).toArray) = ndv ⟨1, Hh, Ln, Mk, li, ri, th⟩ from rfl] at HAT
  obtain ⟨M, hMM⟩ : ∃ M : Nd, (⟨1, Hh, Ln, Mk, li, ri, th⟩ : Nd) = M := ⟨_, rfl⟩
  have hh1 : M.held = 1 := by rw [← hMM]
  have HH1 := Lib.hid hh1
  rw [hMM] at HAT hM
  have hf : Hid (∀ w, Calls Try.prog 69 #[ndv M] w fun e w' => e = .returned (.bool true) ∧ Below w.heap.size w w') := Lib.hid (fun w => by
    have := isfork_any M w
    rw [show decide (1 < M.height) = true by rw [← hM, Tr.nd_height]; exact decide_eq_true (by have := hi.fork_ht; omega)] at this
    exact this)
  have HML : Hid (M.left = l.id) := Lib.hid (by rw [← hM]; rfl)
  have HMR : Hid (M.right = r.id) := Lib.hid (by rw [← hM]; rfl)
  have HIL := Lib.hid hi.2.2.2.1
  have HIR := Lib.hid hi.2.2.2.2
  have HNL := Lib.hid hi.2.1
  have HNR := Lib.hid hi.2.2.1
  have HEL : Hid ((Tr.el Wc (Tr.fork n l r : TC)).length = (l.el Wc).length + (r.el Wc).length) := Lib.hid (by simp [Tr.el])
  have I1 := Lib.hid i1
  have I2 := Lib.hid i2
  clear i1 i2
  obtain ⟨-, -, -, c3, -⟩ := ho.cells
  have H := Lib.hid h
  have HUP := Lib.hid hup
  have HOO := Lib.hid ho
  have HD := Lib.hid hd
  have HLT := Lib.hid hlt
  have HM := Lib.hid hm
  have HMB := Lib.hid hmb
  have HQ := Lib.hid hQ
  clear h hup ho hi hd hlt hm hmb hQ hat hA hM hMM hh1
  go_enter Try.func55, Try.ntmps55
  go_upto_region 9 with (first
    | (go_at_call 77; refine HAT.out.mono ?_; rintro e w1 ⟨rfl, b1⟩; have B1 := Lib.hid (b1.alloc b1.size (.cells ndz 111)); have V1 := Lib.hid (cb_new w1 111 ndz); have V2 := Lib.hid (V1.out.set (ndc M)); have B2 := Lib.hid (below_row (cs := ndc M) B1.out (b := w1.heap.size) b1.size); have Z1 := Lib.hid b1.size; clear b1; have M2 := Lib.hid ((B2.out.block mb (lt_of_heap HM.out)).trans HM.out))
    | (refine wpList_store_row rfl 111 (.tmp 9) (.tmp 21) rfl w1.heap.size (ndc M) rfl rfl _ _ V1.out (ninfo M) rfl (none_n M) ?_)
    | (refine wpList_lookup_empty rfl _ _ rfl mb _ rfl rfl M2.out ?_)
    | (refine wpList_load_roww 111 (.tmp 9) rfl w1.heap.size rfl (by rfl) _ _ _ _ V2.out Try.underlying111 rfl (ninfo M) ?_)
    | (go_at_call 69; refine (hf.out _).mono ?_; clear hf; rintro e w2 ⟨rfl, b2⟩; have B3 := Lib.hid (below_add B2.out b2 B2.out.size); have V3 := Lib.hid (V2.out.below b2); clear b2))
  refine with_worldT (fun W => Cb w1.heap.size 111 (ndc M) W ∧ Below w.heap.size w W) ⟨V3.out, B3.out⟩ fun W0 hW0 => ?_
  have B_4 := Lib.hid hW0.2.drew
  have K_0 := Lib.hid (show Cb w1.heap.size 111 (ndc M) W0.drew from hW0.1.below (below_drew _))
  have HN9 := Lib.hid (loc_not (S := S) (w := w) (W := W0.drew) (b := w1.heap.size) Z1.out K_0.out.lt)
  have HS4 := Lib.hid (loc_sub (S := S) (w := w) (W := W0.drew) HUP.out B_4.out.size)
  have S0 := Lib.hid (H.out.loc B_4.out)
  have P0 := Lib.hid (loc_up S w W0.drew)
  have D0 : Hid (∀ k, So k → ¬ Loc S w W0.drew k) := Lib.hid (fun k hk hl => by
    have := HLT.out k hk
    rcases hl with hl | hl
    · exact HD.out k hk hl.1
    · have := B_4.out.size; omega)
  have L0 : Hid (∀ k, So k → k < W0.drew.heap.size) := Lib.hid (fun k hk => Nat.lt_of_lt_of_le (HLT.out k hk) B_4.out.size)
  have Q0 := Lib.hid (HOO.out.below B_4.out)
  have M0 : Hid (W0.drew.heap[mb]? = some (.map #[] 0)) := Lib.hid ((B_4.out.block mb (lt_of_heap HM.out)).trans HM.out)
  have N0 : Hid (¬ Loc S w W0.drew mb) := Lib.hid (fun hl => by
    rcases hl with hl | hl
    · exact HMB.out hl.1
    · have := lt_of_heap HM.out; have := B_4.out.size; omega)
  generalize Loc S w W0.drew = S4 at *
  have O0 := Lib.hid (Off.refl S4 W0.drew)
  clear hW0 V1 V2 V3 B1 B2 B3 M2 HAT
  refine h_start (S := fun W => Cb w1.heap.size 111 (ndc M) W) (by kernel_rfl) ?_
  refine h_val (i := 0) (v := .pointer (some ⟨tb, 0, none⟩)) rfl (by kernel_rfl) (by kernel_rfl) (by kernel_rfl) (fun _ _ _ h => h) (by rfl) (fun wz hS => ?_) K_0.out ?_
  · skip
    go_simp
  go_frame
  refine h_val (i := 1) (v := .pointer (some ⟨tb, 0, none⟩)) rfl (by kernel_rfl) (by kernel_rfl) (by kernel_rfl) (fun _ _ _ h => h) (by rfl) (fun wz hS => ?_) K_0.out ?_
  · skip
    go_simp
  go_frame
  refine h_val (i := 2) (v := .pointer (some ⟨ob, 0, none⟩)) rfl (by kernel_rfl) (by kernel_rfl) (by kernel_rfl) (fun _ _ _ h => h) (by rfl) (fun wz hS => ?_) K_0.out ?_
  · skip
    go_simp
  go_frame
  refine h_val (i := 3) (v := .pointer (some ⟨w1.heap.size, 4, none⟩)) rfl (by kernel_rfl) (by kernel_rfl) (by kernel_rfl) (fun _ _ _ h => h) (by rfl) (fun wz hS => ?_) K_0.out ?_
  · skip
    go_simp
  go_frame
  refine h_val (i := 4) (v := .int .i64 l.id) rfl (by kernel_rfl) (by kernel_rfl) (by kernel_rfl) (fun _ _ _ h => h) (by rfl) (fun wz hS => ?_) K_0.out ?_
  · skip
    have q4 : wz.cell? ⟨w1.heap.size, 4, none⟩ = some (.int .i64 l.id) := (hS.cell 4).trans (by rw [← HML.out]; rfl)
    go_simp
  go_frame
  refine h_val (i := 5) (v := .map (some mb)) rfl (by kernel_rfl) (by kernel_rfl) (by kernel_rfl) (fun _ _ _ h => h) (by rfl) (fun wz hS => ?_) K_0.out ?_
  · skip
    go_simp
  go_frame
  refine h_val (i := 7) (v := .pointer (some ⟨tb, 0, none⟩)) rfl (by kernel_rfl) (by kernel_rfl) (by kernel_rfl) (fun _ _ _ h => h) (by rfl) (fun wz hS => ?_) K_0.out ?_
  · skip
    go_simp
  go_frame
  refine h_val (i := 8) (v := .pointer (some ⟨ob, 0, none⟩)) rfl (by kernel_rfl) (by kernel_rfl) (by kernel_rfl) (fun _ _ _ h => h) (by rfl) (fun wz hS => ?_) K_0.out ?_
  · skip
    go_simp
  go_frame
  refine h_val (i := 9) (v := .pointer (some ⟨w1.heap.size, 5, none⟩)) rfl (by kernel_rfl) (by kernel_rfl) (by kernel_rfl) (fun _ _ _ h => h) (by rfl) (fun wz hS => ?_) K_0.out ?_
  · skip
    go_simp
  go_frame
  refine h_val (i := 10) (v := .int .i64 r.id) rfl (by kernel_rfl) (by kernel_rfl) (by kernel_rfl) (fun _ _ _ h => h) (by rfl) (fun wz hS => ?_) K_0.out ?_
  · skip
    have q4 : wz.cell? ⟨w1.heap.size, 5, none⟩ = some (.int .i64 r.id) := (hS.cell 5).trans (by rw [← HMR.out]; rfl)
    go_simp
  go_frame
  refine h_val (i := 11) (v := .map (some mb)) rfl (by kernel_rfl) (by kernel_rfl) (by kernel_rfl) (fun _ _ _ h => h) (by rfl) (fun wz hS => ?_) K_0.out ?_
  · skip
    go_simp
  go_frame
  refine h_all1 (i := 6) (by kernel_rfl) ?_
  refine o_call (f := 55) (args := #[.pointer (some ⟨tb, 0, none⟩), .pointer (some ⟨ob, 0, none⟩), .int .i64 l.id, .map (some mb)]) rfl (by rfl) (by go_simp) ?_
  refine (I1.out Q S4 F _ So an cn U V ro A C S0.out P0.out Q0.out HIL.out D0.out L0.out M0.out N0.out (by have := HQ.out; have := HEL.out; omega)).mono ?_
  rintro e v1 ⟨T1, rfl, nT1, eT1, ss, oo⟩
  have K_1 := Lib.hid (K_0.out.off oo HN9.out)
  have S1 := Lib.hid ss
  have O1 := Lib.hid (O0.out.seq oo)
  have P1 := Lib.hid (P0.out.off oo)
  have Q1 := Lib.hid (Q0.out.off oo D0.out)
  have L1 : Hid (∀ k, So k → k < v1.heap.size) := Lib.hid (fun k hk => Nat.lt_of_lt_of_le (L0.out k hk) oo.size)
  have M1 : Hid (v1.heap[mb]? = some (.map #[] 0)) := Lib.hid ((oo.block mb (lt_of_heap M0.out) N0.out).trans M0.out)
  have NT1 := Lib.hid nT1
  have ET1 := Lib.hid eT1
  clear ss oo nT1 eT1
  refine ⟨_, rfl, K_1.out, ?_⟩
  go_frame
  refine h_all1 (i := 12) (by kernel_rfl) ?_
  refine o_call (f := 55) (args := #[.pointer (some ⟨tb, 0, none⟩), .pointer (some ⟨ob, 0, none⟩), .int .i64 r.id, .map (some mb)]) rfl (by rfl) (by go_simp) ?_
  refine (I2.out (Q + (l.el Wc).length) S4 (T1 :: F) _ So an cn U V ro A C S1.out P1.out Q1.out HIR.out D0.out L1.out M1.out N0.out (by have := HQ.out; have := HEL.out; omega)).mono ?_
  rintro e v2 ⟨T2, rfl, nT2, eT2, ss, oo⟩
  have K_2 := Lib.hid (K_1.out.off oo HN9.out)
  have S2 := Lib.hid ss
  have O2 := Lib.hid (O1.out.seq oo)
  have P2 := Lib.hid (P1.out.off oo)
  have Q2 := Lib.hid (Q1.out.off oo D0.out)
  have L2 : Hid (∀ k, So k → k < v2.heap.size) := Lib.hid (fun k hk => Nat.lt_of_lt_of_le (L1.out k hk) oo.size)
  have M2 : Hid (v2.heap[mb]? = some (.map #[] 0)) := Lib.hid ((oo.block mb (lt_of_heap M1.out) N0.out).trans M1.out)
  have NT2 := Lib.hid nT2
  have ET2 := Lib.hid eT2
  clear ss oo nT2 eT2
  refine ⟨_, rfl, K_2.out, ?_⟩
  go_frame
  refine h_all1 (i := 13) (by kernel_rfl) ?_
  refine o_call (f := 78) (args := #[.pointer (some ⟨tb, 0, none⟩), .int .i64 T1.id, .int .i64 T2.id]) rfl (by rfl) (by go_simp) ?_
  refine (fork_q T1 T2 S2.out.swap P2.out (NT1.out HNL.out) (NT2.out HNR.out) (by have := HQ.out; have := HEL.out; omega)).mono ?_
  rintro e v3 ⟨T3, rfl, n3, e3, ss, oo⟩
  have K_3 := Lib.hid (K_2.out.off oo HN9.out)
  have S3 := Lib.hid ss
  have O3 := Lib.hid (O2.out.seq oo)
  have E3 := Lib.hid e3
  have N3 := Lib.hid n3
  clear ss oo e3 n3
  refine ⟨_, rfl, K_3.out, ?_⟩
  go_frame
  refine h_val (i := 14) (v := .int .i64 T3.id) rfl (by kernel_rfl) (by kernel_rfl) (by kernel_rfl) (fun _ _ _ h => h) (by rfl) (fun wz hS => ?_) K_3.out ?_
  · skip
    go_simp
  go_frame
  refine h_done (by kernel_rfl) ?_
  have c0 : _ = some (Value.int .i64 M.held) := K_3.out.cell 0
  rw [HH1.out] at c0
  go_wp2
  go_ret
  refine ⟨T3, rfl, fun _ => N3.out, ?_, ⟨S3.out.1.mono HS4.out, ?_⟩, Off.below_l B_4.out (O3.out.mono HS4.out)⟩
  · rw [E3.out, ET1.out, ET2.out]; rfl
  · have := S3.out.2; have := HEL.out; omega
theorem adopt_any : ∀ (T : TC), AdoptQ tb ob mb root T
  | .nil => adopt_nil
  | .leaf n t x => adopt_leaf n t x
  | .fork n l r => adopt_fork n l r (adopt_any l) (adopt_any r)
end
end Go.Proofs.Ytjgfgpkaeddjhaa
