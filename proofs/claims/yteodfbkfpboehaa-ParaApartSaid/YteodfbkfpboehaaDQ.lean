
import Derived.Test.YteodfbkfpboehaaDP
/- DQ: what stands ahead of a place, and what stands behind it -/
namespace Go.Proofs.Yteodfbkfpboehaa
open Go.RowKit
set_option linter.unusedVariables false
set_option maxRecDepth 100000

/-- a has T's first k numbers, b the others; both are proper if T is. -/
def Cut2 (T a b : TC) (k : Nat) : Prop := flat (a.el Wc) = (flat (T.el Wc)).take k ∧ flat (b.el Wc) = (flat (T.el Wc)).drop k ∧ (Pr (T.el Wc) → Pr (a.el Wc) ∧ Pr (b.el Wc))
theorem Sq.more {Q : Nat} {D : Sv → Prop} {S : Nat → Prop} {tb : Nat} {root : Int} {F : List TC} {w : World} (h : Sq D Q S tb root F w) : Sq D (Q + 10000) S tb root F w := ⟨h.1, by have := h.2; omega⟩
section
variable {D : Sv → Prop} {Q : Nat} {tb : Nat} {root : Int}
@[reducible] def SplitQ (D : Sv → Prop) (Q : Nat) (tb : Nat) (root : Int) (T : TC) (k : Nat) : Prop := ∀ (S : Nat → Prop) (F : List TC) (w : World), Sq D Q S tb root (T :: F) w → Up S w → Q ≤ 1400000000 →
    Calls Try.prog 43 #[.pointer (some ⟨tb, 0, none⟩), .int .i64 T.id, .int .i64 (k : Nat)] w fun e w' => ∃ a b : TC, e = .returned (.tuple #[.int .i64 a.id, .int .i64 b.id]) ∧ Cut2 T a b k ∧ Sq D (Q + 10000) S tb root (a :: b :: F) w' ∧ Off S w w'
theorem cut_form (T : TC) : ∃ M : Nd, T.nd Wc = M ∧ M.len = (Wc.ln (T.el Wc) : Nat) ∧ M.height = (T.ht : Nat) := ⟨_, rfl, T.nd_len, T.nd_height⟩

set_option maxHeartbeats 4000000 in
theorem split_lo (T : TC) (k : Nat) (hk : k = 0) : SplitQ D Q tb root T k := by
  intro S F w h hup hQ
  have hQ' : Q ≤ 4000000000 := by omega
  have hle := (h.ht hQ' _ List.mem_cons_self).2.1
  have d1 : decide (((k : Nat) : Int) ≤ 0) = true := decide_eq_true (by omega)

  have H := Lib.hid h
  have HUP := Lib.hid hup
  have HQ := Lib.hid hQ
  have hat := at_st T List.mem_cons_self h
  obtain ⟨M, hM, hMl, hMh⟩ := cut_form T
  have hat' : Calls Try.prog 51 #[.pointer (some ⟨tb, 0, none⟩), .int .i64 (Tr.id T)] w fun e w' => e = .returned (ndv M) ∧ Below w.heap.size w w' := by
    rw [← hM, ndv_q]; exact hat
  have HAT := Lib.hid hat'
  have HML : Hid (M.len = (Wc.ln (Tr.el Wc T) : Nat)) := Lib.hid hMl
  have HMH : Hid (M.height = ((Tr.ht T : Nat) : Int)) := Lib.hid hMh
  clear h hup hQ hat hM hMl hMh hat' hQ'
  go_enter Try.func43, Try.ntmps43
  go_wp2_with (first
    | (go_at_call 51; refine HAT.out.mono ?_; rintro e w1 ⟨rfl, b1⟩; have B1 := Lib.hid (b1.alloc b1.size (.cells ndz 102)); have V1 := Lib.hid (cb_new w1 102 ndz); have V2 := Lib.hid (V1.out.set (ndc M)); have B2 := Lib.hid (below_row (cs := ndc M) B1.out (b := w1.heap.size) b1.size); have Z1 := Lib.hid b1.size; clear b1; have c2 : _ = some (Value.int .i64 (Wc.ln (Tr.el Wc T) : Nat)) := (V2.out.cell 2).trans (by rw [← HML.out]; rfl))
    | (refine wpList_store_row rfl 102 (.tmp 8) (.tmp 16) rfl w1.heap.size (ndc M) rfl rfl _ _ V1.out (ninfo M) rfl (none_n M) ?_))
  exact bodyPost_ret (by simp [results, Try.results43, go_sem]; rfl) rfl ⟨.nil, T, rfl, ⟨by rw [hk]; rfl, by rw [hk]; rfl, fun h => ⟨trivial, h⟩⟩, ⟨(H.out.1.below B2.out).nil, by have := H.out.2; rw [tot_cons]; simp only [Tr.el, Way.wt_nil]; omega⟩, Off.of_below B2.out⟩

set_option maxHeartbeats 4000000 in
theorem split_hi (T : TC) (k : Nat) (hk : 0 < k) (hl : Wc.ln (T.el Wc) ≤ k) : SplitQ D Q tb root T k := by
  intro S F w h hup hQ
  have hQ' : Q ≤ 4000000000 := by omega
  have hle := (h.ht hQ' _ List.mem_cons_self).2.1
  have d1 : decide (((k : Nat) : Int) ≤ 0) = false := decide_eq_false (by omega)
  have d1' : decide (k = 0) = false := decide_eq_false (by omega)
  have d2 : decide (Wc.ln (T.el Wc) ≤ k) = true := decide_eq_true hl
  have d2' : decide (((Wc.ln (T.el Wc) : Nat) : Int) ≤ ((k : Nat) : Int)) = true := decide_eq_true (by omega)

  have H := Lib.hid h
  have HUP := Lib.hid hup
  have HQ := Lib.hid hQ
  have hat := at_st T List.mem_cons_self h
  obtain ⟨M, hM, hMl, hMh⟩ := cut_form T
  have hat' : Calls Try.prog 51 #[.pointer (some ⟨tb, 0, none⟩), .int .i64 (Tr.id T)] w fun e w' => e = .returned (ndv M) ∧ Below w.heap.size w w' := by
    rw [← hM, ndv_q]; exact hat
  have HAT := Lib.hid hat'
  have HML : Hid (M.len = (Wc.ln (Tr.el Wc T) : Nat)) := Lib.hid hMl
  have HMH : Hid (M.height = ((Tr.ht T : Nat) : Int)) := Lib.hid hMh
  have hk2 : (k == 0) = false := by rw [beq_eq_false_iff_ne]; omega
  have E1 := Lib.hid (List.take_of_length_le (l := flat (T.el Wc)) (i := k) (by rw [flat_len]; exact hl))
  have E2 := Lib.hid (List.drop_of_length_le (l := flat (T.el Wc)) (i := k) (by rw [flat_len]; exact hl))
  clear h hup hQ hat hM hMl hMh hat' hQ' hk hl
  go_enter Try.func43, Try.ntmps43
  go_wp2_with (first
    | (go_at_call 51; refine HAT.out.mono ?_; rintro e w1 ⟨rfl, b1⟩; have B1 := Lib.hid (b1.alloc b1.size (.cells ndz 102)); have V1 := Lib.hid (cb_new w1 102 ndz); have V2 := Lib.hid (V1.out.set (ndc M)); have B2 := Lib.hid (below_row (cs := ndc M) B1.out (b := w1.heap.size) b1.size); have Z1 := Lib.hid b1.size; clear b1; have c2 : _ = some (Value.int .i64 (Wc.ln (Tr.el Wc T) : Nat)) := (V2.out.cell 2).trans (by rw [← HML.out]; rfl))
    | (refine wpList_store_row rfl 102 (.tmp 8) (.tmp 16) rfl w1.heap.size (ndc M) rfl rfl _ _ V1.out (ninfo M) rfl (none_n M) ?_))
  exact bodyPost_ret (by simp [results, Try.results43, go_sem]; rfl) rfl ⟨T, .nil, rfl, ⟨E1.out.symm, E2.out.symm, fun h => ⟨h, trivial⟩⟩, (Sq.swap (a := .nil) (b := T) ⟨(H.out.1.below B2.out).nil, by have := H.out.2; rw [tot_cons]; simp only [Tr.el, Way.wt_nil]; omega⟩), Off.of_below B2.out⟩

set_option maxHeartbeats 4000000 in
theorem split_forkl (n : Nat) (l r : TC) (k : Nat) (hk : 0 < k) (hl : k < Wc.ln (Tr.el Wc (Tr.fork n l r : TC))) (hm : k < Wc.ln (l.el Wc)) (ih : SplitQ D Q tb root l k) : SplitQ D Q tb root (Tr.fork n l r : TC) k := by
  intro S F w h hup hQ
  have hQ' : Q ≤ 4000000000 := by omega
  have hle := (h.ht hQ' _ List.mem_cons_self).2.1
  have d1 : decide (((k : Nat) : Int) ≤ 0) = false := decide_eq_false (by omega)
  have d1' : decide (k = 0) = false := decide_eq_false (by omega)
  have hk2 : (k == 0) = false := by rw [beq_eq_false_iff_ne]; omega
  have d2 : decide (Wc.ln (Tr.el Wc (Tr.fork n l r : TC)) ≤ k) = false := decide_eq_false (by omega)
  have d2' : decide (((Wc.ln (Tr.el Wc (Tr.fork n l r : TC)) : Nat) : Int) ≤ ((k : Nat) : Int)) = false := decide_eq_false (by omega)
  have hll : Wc.ln (l.el Wc) ≤ Wc.ln (Tr.el Wc (Tr.fork n l r : TC)) := by show Wc.ln (l.el Wc) ≤ Wc.ln (l.el Wc ++ r.el Wc); rw [Wc.lnA]; omega
  have d3 : decide (k < Wc.ln (l.el Wc)) = true := decide_eq_true hm
  have d3' : decide (((k : Nat) : Int) < ((Wc.ln (l.el Wc) : Nat) : Int)) = true := decide_eq_true (by omega)

  have H := Lib.hid h
  have HUP := Lib.hid hup
  have HQ := Lib.hid hQ
  have hat := at_st (Tr.fork n l r : TC) List.mem_cons_self h
  obtain ⟨M, hM, hMl, hMh⟩ := cut_form (Tr.fork n l r : TC)
  have hat' : Calls Try.prog 51 #[.pointer (some ⟨tb, 0, none⟩), .int .i64 (Tr.id (Tr.fork n l r : TC))] w fun e w' => e = .returned (ndv M) ∧ Below w.heap.size w w' := by
    rw [← hM, ndv_q]; exact hat
  have HAT := Lib.hid hat'
  have HML : Hid (M.len = (Wc.ln (Tr.el Wc (Tr.fork n l r : TC)) : Nat)) := Lib.hid hMl
  have HMH : Hid (M.height = ((Tr.ht (Tr.fork n l r : TC) : Nat) : Int)) := Lib.hid hMh
  have hf : Hid (∀ w, Calls Try.prog 57 #[ndv M] w fun e w' => e = .returned (.bool true) ∧ Below w.heap.size w w') := Lib.hid (fun w => by
    have := isfork_any M w
    rw [hMh, decide_eq_true (show (1 : Int) < (((Tr.fork n l r : TC).ht : Nat) : Int) by have := fork_ht (n := n) (l := l) (r := r) h.sub.1; omega)] at this
    exact this)
  have E1 : Hid ((flat (l.el Wc)).take k = (flat (Tr.el Wc (Tr.fork n l r : TC))).take k) := Lib.hid (by show _ = (flat (l.el Wc ++ r.el Wc)).take k; rw [flat_app, List.take_append_of_le_length (by rw [flat_len]; exact Nat.le_of_lt hm)])
  have E2 : Hid ((flat (l.el Wc)).drop k ++ flat (r.el Wc) = (flat (Tr.el Wc (Tr.fork n l r : TC))).drop k) := Lib.hid (by show _ = (flat (l.el Wc ++ r.el Wc)).drop k; rw [flat_app, List.drop_append_of_le_length (by rw [flat_len]; exact Nat.le_of_lt hm)])
  have IH := Lib.hid ih
  have hfh := field_sz
  have hfl := field_len
  clear h hup hQ hat hM hMl hMh hat' hQ' hk hl hm ih
  go_enter Try.func43, Try.ntmps43
  go_upto_region 10 with (first
    | (go_at_call 51; refine HAT.out.mono ?_; rintro e w1 ⟨rfl, b1⟩; have B1 := Lib.hid (b1.alloc b1.size (.cells ndz 102)); have V1 := Lib.hid (cb_new w1 102 ndz); have V2 := Lib.hid (V1.out.set (ndc M)); have B2 := Lib.hid (below_row (cs := ndc M) B1.out (b := w1.heap.size) b1.size); have Z1 := Lib.hid b1.size; clear b1; have c2 : _ = some (Value.int .i64 (Wc.ln (Tr.el Wc (Tr.fork n l r : TC)) : Nat)) := (V2.out.cell 2).trans (by rw [← HML.out]; rfl))
    | (refine wpList_store_row rfl 102 (.tmp 8) (.tmp 16) rfl w1.heap.size (ndc M) rfl rfl _ _ V1.out (ninfo M) rfl (none_n M) ?_)
    | (refine wpList_load_roww 102 (.tmp 8) rfl w1.heap.size rfl (by rfl) _ _ _ _ V2.out Try.underlying102 rfl (ninfo M) ?_)
    | (go_at_call 57; refine (hf.out _).mono ?_; clear hf; rintro e w2 ⟨rfl, b2⟩; have B3 := Lib.hid (below_add B2.out b2 B2.out.size); clear b2))
  refine with_worldT (fun W => Below w.heap.size w W) B3.out fun W0 hW0 => ?_
  have S1 := Lib.hid (H.out.below hW0)
  have O1 := Lib.hid (Off.of_below (S := S) hW0)
  have P1 := Lib.hid (HUP.out.below hW0)
  clear hW0 c2
  go_wp2_with (first
    | (go_at_call 62; with_reducible refine (open_q n l r S1.out P1.out).mono ?_; rintro e w2 ⟨rfl, ss, oo⟩; have S2 := Lib.hid ss; have O2 := Lib.hid (O1.out.seq oo); have P2 := Lib.hid (P1.out.off oo); clear ss oo)
    | (go_at_call 51; with_reducible refine (at_st l List.mem_cons_self S2.out).mono ?_; rintro e w3 ⟨rfl, bb⟩; have S3 := Lib.hid (S2.out.below bb); have O3 := Lib.hid (O2.out.below_r bb); have P3 := Lib.hid (P2.out.below bb); clear bb)
    | (go_at_call 43; with_reducible refine (IH.out S _ _ S3.out P3.out HQ.out).mono ?_; rintro e w4 ⟨a, b, rfl, ea, ss, oo⟩; have S4 := Lib.hid ss; have O4 := Lib.hid (O3.out.seq oo); have P4 := Lib.hid (P3.out.off oo); have EA := Lib.hid ea; clear ss oo ea)
    | (go_at_call 45; with_reducible refine (join_any b r (S4.out.perm ((List.Perm.swap _ _ _).trans (List.Perm.cons _ (List.Perm.swap _ _ _)))) P4.out (by have := HQ.out; omega)).mono ?_; rintro e w5 ⟨c, rfl, ec, pc, ss, oo⟩; have S5 := Lib.hid ss; have O5 := Lib.hid (O4.out.seq oo); have EC := Lib.hid ec; have PC := Lib.hid pc; clear ss oo ec pc))
  exact bodyPost_ret (by simp [results, Try.results43, go_sem]) rfl ⟨a, c, rfl, ⟨EA.out.1.trans E1.out, (EC.out.trans (by rw [EA.out.2.1])).trans E2.out, fun h => ⟨(EA.out.2.2 (pr_app.1 h).1).1, PC.out (EA.out.2.2 (pr_app.1 h).1).2 (pr_app.1 h).2.1⟩⟩, S5.out.swap, O5.out⟩

set_option maxHeartbeats 4000000 in
theorem split_forkr (n : Nat) (l r : TC) (k : Nat) (hk : 0 < k) (hl : k < Wc.ln (Tr.el Wc (Tr.fork n l r : TC))) (j : Nat) (hm : k = Wc.ln (l.el Wc) + j) (ih : SplitQ D Q tb root r j) : SplitQ D Q tb root (Tr.fork n l r : TC) k := by
  intro S F w h hup hQ
  have hQ' : Q ≤ 4000000000 := by omega
  have hle := (h.ht hQ' _ List.mem_cons_self).2.1
  have d1 : decide (((k : Nat) : Int) ≤ 0) = false := decide_eq_false (by omega)
  have d1' : decide (k = 0) = false := decide_eq_false (by omega)
  have hk2 : (k == 0) = false := by rw [beq_eq_false_iff_ne]; omega
  have d2 : decide (Wc.ln (Tr.el Wc (Tr.fork n l r : TC)) ≤ k) = false := decide_eq_false (by omega)
  have d2' : decide (((Wc.ln (Tr.el Wc (Tr.fork n l r : TC)) : Nat) : Int) ≤ ((k : Nat) : Int)) = false := decide_eq_false (by omega)
  have hll : Wc.ln (l.el Wc) ≤ Wc.ln (Tr.el Wc (Tr.fork n l r : TC)) := by show Wc.ln (l.el Wc) ≤ Wc.ln (l.el Wc ++ r.el Wc); rw [Wc.lnA]; omega
  have d3 : decide (k < Wc.ln (l.el Wc)) = false := decide_eq_false (by omega)
  have d3' : decide (((k : Nat) : Int) < ((Wc.ln (l.el Wc) : Nat) : Int)) = false := decide_eq_false (by omega)
  have ej : ((k : Nat) : Int) - ((Wc.ln (l.el Wc) : Nat) : Int) = ((j : Nat) : Int) := by omega
  have u1 : -4000000000 ≤ ((k : Nat) : Int) - ((Wc.ln (l.el Wc) : Nat) : Int) := by omega
  have u2 : ((k : Nat) : Int) - ((Wc.ln (l.el Wc) : Nat) : Int) ≤ 4000000000 := by omega

  have H := Lib.hid h
  have HUP := Lib.hid hup
  have HQ := Lib.hid hQ
  have hat := at_st (Tr.fork n l r : TC) List.mem_cons_self h
  obtain ⟨M, hM, hMl, hMh⟩ := cut_form (Tr.fork n l r : TC)
  have hat' : Calls Try.prog 51 #[.pointer (some ⟨tb, 0, none⟩), .int .i64 (Tr.id (Tr.fork n l r : TC))] w fun e w' => e = .returned (ndv M) ∧ Below w.heap.size w w' := by
    rw [← hM, ndv_q]; exact hat
  have HAT := Lib.hid hat'
  have HML : Hid (M.len = (Wc.ln (Tr.el Wc (Tr.fork n l r : TC)) : Nat)) := Lib.hid hMl
  have HMH : Hid (M.height = ((Tr.ht (Tr.fork n l r : TC) : Nat) : Int)) := Lib.hid hMh
  have hf : Hid (∀ w, Calls Try.prog 57 #[ndv M] w fun e w' => e = .returned (.bool true) ∧ Below w.heap.size w w') := Lib.hid (fun w => by
    have := isfork_any M w
    rw [hMh, decide_eq_true (show (1 : Int) < (((Tr.fork n l r : TC).ht : Nat) : Int) by have := fork_ht (n := n) (l := l) (r := r) h.sub.1; omega)] at this
    exact this)
  have E1 : Hid (flat (l.el Wc) ++ (flat (r.el Wc)).take j = (flat (Tr.el Wc (Tr.fork n l r : TC))).take k) := Lib.hid (by show _ = (flat (l.el Wc ++ r.el Wc)).take k; rw [hm, flat_app, show Wc.ln (l.el Wc) = (flat (l.el Wc)).length from (flat_len _).symm, List.take_length_add_append])
  have E2 : Hid ((flat (r.el Wc)).drop j = (flat (Tr.el Wc (Tr.fork n l r : TC))).drop k) := Lib.hid (by show _ = (flat (l.el Wc ++ r.el Wc)).drop k; rw [hm, flat_app, show Wc.ln (l.el Wc) = (flat (l.el Wc)).length from (flat_len _).symm, List.drop_length_add_append])
  have IH := Lib.hid ih
  have hfh := field_sz
  have hfl := field_len
  clear h hup hQ hat hM hMl hMh hat' hQ' hk hl hm ih
  go_enter Try.func43, Try.ntmps43
  go_upto_region 10 with (first
    | (go_at_call 51; refine HAT.out.mono ?_; rintro e w1 ⟨rfl, b1⟩; have B1 := Lib.hid (b1.alloc b1.size (.cells ndz 102)); have V1 := Lib.hid (cb_new w1 102 ndz); have V2 := Lib.hid (V1.out.set (ndc M)); have B2 := Lib.hid (below_row (cs := ndc M) B1.out (b := w1.heap.size) b1.size); have Z1 := Lib.hid b1.size; clear b1; have c2 : _ = some (Value.int .i64 (Wc.ln (Tr.el Wc (Tr.fork n l r : TC)) : Nat)) := (V2.out.cell 2).trans (by rw [← HML.out]; rfl))
    | (refine wpList_store_row rfl 102 (.tmp 8) (.tmp 16) rfl w1.heap.size (ndc M) rfl rfl _ _ V1.out (ninfo M) rfl (none_n M) ?_)
    | (refine wpList_load_roww 102 (.tmp 8) rfl w1.heap.size rfl (by rfl) _ _ _ _ V2.out Try.underlying102 rfl (ninfo M) ?_)
    | (go_at_call 57; refine (hf.out _).mono ?_; clear hf; rintro e w2 ⟨rfl, b2⟩; have B3 := Lib.hid (below_add B2.out b2 B2.out.size); clear b2))
  refine with_worldT (fun W => Below w.heap.size w W) B3.out fun W0 hW0 => ?_
  have S1 := Lib.hid (H.out.below hW0)
  have O1 := Lib.hid (Off.of_below (S := S) hW0)
  have P1 := Lib.hid (HUP.out.below hW0)
  clear hW0 c2
  go_wp2_with (first
    | (go_at_call 62; with_reducible refine (open_q n l r S1.out P1.out).mono ?_; rintro e w2 ⟨rfl, ss, oo⟩; have S2 := Lib.hid ss; have O2 := Lib.hid (O1.out.seq oo); have P2 := Lib.hid (P1.out.off oo); clear ss oo)
    | (go_at_call 51; with_reducible refine (at_st l List.mem_cons_self S2.out).mono ?_; rintro e w3 ⟨rfl, bb⟩; have S3 := Lib.hid (S2.out.below bb); have O3 := Lib.hid (O2.out.below_r bb); have P3 := Lib.hid (P2.out.below bb); clear bb)
    | (go_at_call 43; with_reducible refine (IH.out S _ _ S3.out.swap P3.out HQ.out).mono ?_; rintro e w4 ⟨a, b, rfl, ea, ss, oo⟩; have S4 := Lib.hid ss; have O4 := Lib.hid (O3.out.seq oo); have P4 := Lib.hid (P3.out.off oo); have EA := Lib.hid ea; clear ss oo ea)
    | (go_at_call 45; with_reducible refine (join_any l a (S4.out.perm ((List.Perm.cons _ (List.Perm.swap _ _ _)).trans (List.Perm.swap _ _ _))) P4.out (by have := HQ.out; omega)).mono ?_; rintro e w5 ⟨c, rfl, ec, pc, ss, oo⟩; have S5 := Lib.hid ss; have O5 := Lib.hid (O4.out.seq oo); have EC := Lib.hid ec; have PC := Lib.hid pc; clear ss oo ec pc))
  exact bodyPost_ret (by simp [results, Try.results43, go_sem]) rfl ⟨c, b, rfl, ⟨(EC.out.trans (by rw [EA.out.1])).trans E1.out, EA.out.2.1.trans E2.out, fun h => ⟨PC.out (pr_app.1 h).1 (EA.out.2.2 (pr_app.1 h).2.1).1, (EA.out.2.2 (pr_app.1 h).2.1).2⟩⟩, S5.out, O5.out⟩
end
end Go.Proofs.Yteodfbkfpboehaa
