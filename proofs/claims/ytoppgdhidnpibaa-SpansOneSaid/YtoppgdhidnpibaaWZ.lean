
import Derived.Test.YtoppgdhidnpibaaWY
/- WZ: the number at a place; a span by its number -/
namespace Go.Proofs.Ytoppgdhidnpibaa
open Go.RowKit
set_option linter.unusedVariables false
set_option maxRecDepth 100000

theorem hit_get {L : List Ck} {k : Nat} {x : Ck} {pre : List Ck} (h : HitAt L k x pre) : (flat L).getD k 0 = x.d := by
  obtain ⟨post, rfl, h1, h2⟩ := h
  rw [flat_app, flat_cons, List.getD_eq_getElem?_getD, List.getElem?_append_right (by rw [flat_len]; exact h1), List.getElem?_append_left (by rw [List.length_replicate, flat_len]; omega), List.getElem?_replicate, if_pos (by rw [flat_len]; omega)]; rfl
theorem app_le {p1 p2 s1 s2 : List Ck} {x y : Ck} (h : p1 ++ x :: s1 = p2 ++ y :: s2) : (p1 = p2 ∧ x = y) ∨ (∃ m, p1 = p2 ++ y :: m) ∨ (∃ m, p2 = p1 ++ x :: m) := by
  rcases List.append_eq_append_iff.1 h with ⟨a, h1, h2⟩ | ⟨a, h1, h2⟩
  · cases a with
    | nil => simp at h1 h2; exact .inl ⟨h1.symm, h2.1⟩
    | cons z m => simp at h2; exact .inr (.inr ⟨m, by rw [h1, ← h2.1]⟩)
  · cases a with
    | nil => simp at h1 h2; exact .inl ⟨h1, h2.1.symm⟩
    | cons z m => simp at h2; exact .inr (.inl ⟨m, by rw [h1, ← h2.1]⟩)
theorem pr_pos : ∀ {L : List Ck}, Pr L → ∀ x ∈ L, 0 < x.n
  | [], _, x, h => by cases h
  | y :: L, h, x, hx => by
    rcases List.mem_cons.1 hx with rfl | hx
    · exact h.1
    · exact pr_pos h.2.2 x hx
theorem hit_same {L pre post pre2 : List Ck} {x x2 : Ck} (hp : Pr L) (h : L = pre ++ x :: post) (h2 : HitAt L (lnS pre) x2 pre2) : x2 = x := by
  obtain ⟨post2, e, h3, h4⟩ := h2
  have hx := pr_pos hp
  rcases app_le (h.symm.trans e) with ⟨-, h5⟩ | ⟨m, h5⟩ | ⟨m, h5⟩
  · exact h5.symm
  · rw [h5, lnS_app, lnS_cons] at h4; omega
  · have := hx x (by rw [h]; simp)
    rw [h5, lnS_app, lnS_cons] at h3; omega
section
variable {S : Nat → Prop} {tb rb : Nat} {l : List Int} {w w' W : World}
theorem sp_read2 (h : Rp S rb l w) : Calls Try.prog 22 #[.pointer (some ⟨rb, 0, none⟩)] w fun e w' => ∃ (tb : Nat) (S' : Nat → Prop) (R : TC), e = .returned (.pointer (some ⟨tb, 0, none⟩)) ∧ R.el Wc = rl l ∧ Sq (wq l) S' tb R.id [R] w' ∧ Below w.heap.size w w' := by
  refine (sp_read h).mono ?_
  rintro e w' ⟨tb, S', rfl, ⟨R, h1, h2, h3⟩, hb⟩
  exact ⟨tb, S', R, rfl, h2, h1, hb⟩
theorem treeAt2 (R : TC) (k : Nat) {Q : Nat} (h : Sq Q S tb R.id [R] w) (hQ : Q ≤ 4000000000) (hk : k < Wc.ln (R.el Wc)) :
    Calls Try.prog 23 #[.pointer (some ⟨tb, 0, none⟩), .int .i64 (k : Nat)] w fun e w' => ∃ (cx : Array Value) (j : Int) (x : Ck) (pre : List Ck), e = .returned (.tuple #[.agg cx, .int .i64 j]) ∧ cx = crow x ∧ HitAt (R.el Wc) k x pre ∧ Below w.heap.size w w' := by
  refine (treeAt_any R k h hQ hk).mono ?_
  rintro e w' ⟨x, j, pre, rfl, j2, hb⟩
  exact ⟨_, j, x, pre, rfl, rfl, j2, hb⟩
def atE (l : List Int) (i : Int) : Int := if 0 ≤ i ∧ i < (l.length : Nat) then 0 else 5
def atV (l : List Int) (i : Int) : Int := if 0 ≤ i ∧ i < (l.length : Nat) then l.getD i.toNat 0 else 0
set_option maxHeartbeats 1000000 in
theorem sp_at_in (h : Rp S rb l w) (hQ : wq l ≤ 4000000000) (i : Nat) (hi : i < l.length) : Calls Try.prog 9 #[.pointer (some ⟨rb, 0, none⟩), .int .i64 (i : Nat)] w fun e w' => e = .returned (.tuple #[.int .i64 (l.getD i 0), .int .i64 0]) ∧ Below w.heap.size w w' := by
  have H0 := Lib.hid h
  have HQ := Lib.hid (And.intro hQ hi)
  have HL := Lib.hid (sp_len h)
  have HRD := Lib.hid (fun (w' : World) (hb : Below w.heap.size w w') => sp_read2 (h.below hb))
  have d1 : decide (((i : Nat) : Int) < 0) = false := decide_eq_false (by omega)
  have d2 : decide (((l.length : Nat) : Int) ≤ ((i : Nat) : Int)) = false := decide_eq_false (by omega)
  obtain ⟨v, hv⟩ : ∃ v, l.getD i 0 = v := ⟨_, rfl⟩
  have HV := Lib.hid hv
  rw [hv]
  obtain ⟨n, hn⟩ : ∃ n, l.length = n := ⟨_, rfl⟩
  have HN := Lib.hid hn
  rw [hn] at d2 HL
  have d3 : decide (n ≤ i) = false := decide_eq_false (by omega)
  clear h hQ hi hv hn
  go_enter Try.func9, Try.ntmps9
  go_wp2_with (first
    | (go_at_call 15; refine HL.out.mono ?_; clear HL; rintro e w1 ⟨rfl, bb⟩; have B1 := Lib.hid bb; clear bb)
    | (go_at_call 22; refine (HRD.out _ B1.out).mono ?_; clear HRD; rintro e w2 ⟨tb, S', R, rfl, hr, ss, bb⟩; have SS := Lib.hid ss; have HR := Lib.hid hr; have B2 := Lib.hid (below_add B1.out bb B1.out.size); clear ss bb hr)
    | (go_at_call 23; refine (treeAt2 R i SS.out HQ.out.1 (by rw [HR.out, show Wc.ln (rl l) = l.length from lnS_rl l]; exact HQ.out.2)).mono ?_; rintro e w3 ⟨cx, j, x, pre, rfl, hx, ht, bb⟩; have HX := Lib.hid hx; have HT := Lib.hid ht; have B3 := Lib.hid ((below_add B2.out bb B2.out.size).alloc (by have := B2.out.size; have := bb.size; omega) (.cells czr 44)); have Z3 := Lib.hid (show w.heap.size ≤ w3.heap.size by have := B2.out.size; have := bb.size; omega); have V3 := Lib.hid (cb_new w3 44 czr); clear bb hx ht)
    | (refine wpList_store_row rfl 44 (.tmp 6) (.tmp 25) rfl w3.heap.size cx rfl rfl _ _ V3.out (xinfo (by rw [HX.out]; rfl)) (by rw [HX.out]; rfl) (by rw [HX.out]; exact crow_one x) ?_; refine with_worldTL (fun W => Cb w3.heap.size 44 cx W ∧ Below w.heap.size w W) ⟨V3.out.set cx, below_row B3.out Z3.out⟩ fun W4 hW4 => ?_; have B4 := Lib.hid hW4.2; have c6 : W4.cell? ⟨w3.heap.size, 1, none⟩ = some (Value.int .i64 x.d) := (hW4.1.cell 1).trans (by rw [HX.out]; rfl); have hd := hit_get HT.out; rw [HR.out, rl_flat, HV.out] at hd; rw [← hd] at c6; clear hW4 hd))
  go_ret2
  exact ⟨rfl, B4.out⟩
theorem sp_at_out (h : Rp S rb l w) (i : Int) (hi : ¬ (0 ≤ i ∧ i < (l.length : Nat))) : Calls Try.prog 9 #[.pointer (some ⟨rb, 0, none⟩), .int .i64 i] w fun e w' => e = .returned (.tuple #[.int .i64 0, .int .i64 5]) ∧ Below w.heap.size w w' := by
  have HL := Lib.hid (sp_len h)
  have HB := Lib.hid (Below.refl w.heap.size w)
  obtain ⟨n, hn⟩ : ∃ n, l.length = n := ⟨_, rfl⟩
  rw [hn] at HL hi
  clear h hn
  by_cases h1 : i < 0
  · have d1 : decide (i < 0) = true := decide_eq_true h1
    clear h1 hi
    go_enter Try.func9, Try.ntmps9
    go_wp2
    go_ret2
    exact ⟨rfl, HB.out⟩
  · have d1 : decide (i < 0) = false := decide_eq_false h1
    have d2 : decide ((n : Int) ≤ i) = true := decide_eq_true (by omega)
    clear h1 hi
    go_enter Try.func9, Try.ntmps9
    go_wp2_with (go_at_call 15; refine HL.out.mono ?_; clear HL; rintro e w1 ⟨rfl, bb⟩; have B1 := Lib.hid bb; clear bb)
    go_ret2
    exact ⟨rfl, B1.out⟩
theorem sp_at (h : Rp S rb l w) (hQ : wq l ≤ 4000000000) (i : Int) : Calls Try.prog 9 #[.pointer (some ⟨rb, 0, none⟩), .int .i64 i] w fun e w' => e = .returned (.tuple #[.int .i64 (atV l i), .int .i64 (atE l i)]) ∧ Below w.heap.size w w' := by
  unfold atV atE
  by_cases hi : 0 ≤ i ∧ i < (l.length : Nat)
  · rw [if_pos hi, if_pos hi]
    obtain ⟨k, rfl⟩ : ∃ k : Nat, i = k := ⟨i.toNat, by omega⟩
    exact sp_at_in h hQ k (by omega)
  · rw [if_neg hi, if_neg hi]
    exact sp_at_out h i hi
set_option maxHeartbeats 1000000 in
theorem sp_span (h : Rp S rb l w) (hQ : wq l ≤ 4000000000) (k : Nat) (x : Ck) (hk : (rl l)[k]? = some x) : Calls Try.prog 28 #[.pointer (some ⟨rb, 0, none⟩), .int .i64 (k : Nat)] w fun e w' => e = .returned (cvs x) ∧ Below w.heap.size w w' := by
  have HQ := Lib.hid hQ
  have HK := Lib.hid hk
  have HRD := Lib.hid (fun (w' : World) (hb : Below w.heap.size w w') => sp_read2 (h.below hb))
  have hb := (Below.refl w.heap.size w).alloc (Nat.le_refl _) (.cells czr 44)
  have B0 := Lib.hid hb
  have R0 := Lib.hid (cb_new w 44 czr)
  clear h hQ hk hb
  go_enter Try.func28, Try.ntmps28
  go_wp2_with (first
    | (go_at_call 22; refine (HRD.out _ B0.out).mono ?_; rintro e w1 ⟨tb, S', R, rfl, hr, ss, bb⟩; have SS := Lib.hid ss; have HR := Lib.hid hr; have B1 := Lib.hid (below_add B0.out bb B0.out.size); have R1 := Lib.hid (R0.out.below bb); clear ss bb hr R0)
    | (go_at_call 45; refine (markAt_any R k SS.out HQ.out (by rw [HR.out]; exact (List.getElem?_eq_some_iff.1 HK.out).1)).mono ?_; rintro e w2 ⟨x2, pre, post, rfl, he, hp, bb⟩; have HE := Lib.hid (And.intro he hp); have B2 := Lib.hid (below_add B1.out bb B1.out.size); have R2 := Lib.hid (R1.out.below bb); clear bb he hp R1)
    | (go_at_call 22; with_reducible (refine (HRD.out _ B2.out).mono ?_); rintro e w3 ⟨tb3, S3, R3, rfl, hr, ss, bb⟩; have SS3 := Lib.hid ss; have HR3 := Lib.hid hr; have B3 := Lib.hid (below_add B2.out bb B2.out.size); have R3x := Lib.hid (R2.out.below bb); clear ss bb hr R2)
    | (go_at_call 23; refine (treeAt2 R3 (lnS pre) SS3.out HQ.out (by rw [HR3.out, ← HR.out, HE.out.1]; show lnS pre < lnS (pre ++ x2 :: post); rw [lnS_app, lnS_cons]; have := pr_pos (rl_pr l) x2 (by rw [← HR.out, HE.out.1]; simp); omega)).mono ?_; rintro e w4 ⟨cx, j, x4, pre4, rfl, hx, ht, bb⟩; have HX := Lib.hid hx; have HT := Lib.hid ht; have B4 := Lib.hid ((below_add B3.out bb B3.out.size).alloc (by have := B3.out.size; have := bb.size; omega) (.cells czr 44)); have Z4 := Lib.hid (show w.heap.size < w4.heap.size from Nat.lt_of_lt_of_le R3x.out.lt bb.size); have V4 := Lib.hid (cb_new w4 44 czr); have R4 := Lib.hid ((R3x.out.below bb).alloc (.cells czr 44)); clear bb hx ht R3x; have S4 := Lib.hid (show cx.size = 2 by rw [HX.out]; rfl); have O4 := Lib.hid (show cx.all (·.oneCell') = true by rw [HX.out]; exact crow_one x4); have V5 := Lib.hid (V4.out.set cx); have R5 := Lib.hid (R4.out.other (c := w4.heap.size) (by have := Z4.out; omega) cx))
    | (refine wpList_store_row rfl 44 (.tmp 6) (.tmp 17) rfl w4.heap.size cx rfl rfl _ _ V4.out (xinfo S4.out) (by rw [S4.out]; rfl) O4.out ?_)
    | (refine wpList_load_roww 44 (.tmp 6) rfl w4.heap.size rfl (by rfl) _ _ _ _ V5.out Try.underlying44 rfl (xinfo S4.out) ?_)
    | (refine wpList_store_row rfl 44 (.tmp 4) (.tmp 19) rfl w.heap.size cx rfl rfl _ _ R5.out (xinfo S4.out) (by rw [S4.out]; rfl) O4.out ?_))
  have hx : x4 = x := by
    have h1 := hit_same (L := rl l) (pre := pre) (post := post) (x := x2) (rl_pr l) (by rw [← HR.out, HE.out.1]) (by rw [← HR3.out]; exact HT.out)
    have h2 := HK.out
    rw [← HR.out, HE.out.1, ← HE.out.2] at h2
    simp at h2
    rw [h1, h2]
  refine bodyPost_ret (results_cell_row Try.results28 _ _ _ _ _ _ _ rfl (R5.out.set cx) Try.underlying44 rfl (xinfo S4.out)) rfl ⟨?_, below_row (below_row B4.out (by have := Z4.out; omega)) (Nat.le_refl _)⟩
  unfold cvs; rw [← hx, ← HX.out]
end
end Go.Proofs.Ytoppgdhidnpibaa
