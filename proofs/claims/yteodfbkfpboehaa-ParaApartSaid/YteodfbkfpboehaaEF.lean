
import Derived.Test.YteodfbkfpboehaaEE
/- EF: which places there are; the record at a place; records taken out -/
namespace Go.Proofs.Yteodfbkfpboehaa
open Go.RowKit
set_option linter.unusedVariables false
set_option maxRecDepth 100000

/-- Are there such places? -/
def mrE (n : Nat) (i j : Int) : Int := if 0 ≤ i ∧ i ≤ j ∧ j ≤ (n : Nat) then 0 else 5
theorem mrE_yes {n : Nat} {i j : Int} (h : 0 ≤ i ∧ i ≤ j ∧ j ≤ (n : Nat)) : mrE n i j = 0 := if_pos h
theorem mrE_no {n : Nat} {i j : Int} (h : ¬ (0 ≤ i ∧ i ≤ j ∧ j ≤ (n : Nat))) : mrE n i j = 5 := if_neg h
theorem hit_get {L : List Ck} {k : Nat} {x : Ck} {pre : List Ck} (h : HitAt L k x pre) : (flat L).getD k [] = x.d.s := by
  obtain ⟨post, rfl, h1, h2⟩ := h
  rw [flat_app, flat_cons, List.getD_eq_getElem?_getD, List.getElem?_append_right (by rw [flat_len]; exact h1), List.getElem?_append_left (by rw [List.length_replicate, flat_len]; omega), List.getElem?_replicate, if_pos (by rw [flat_len]; omega)]; rfl
section
variable {S : Nat → Prop} {tb rb : Nat} {l : List (List Att)} {w w' W : World}
theorem pa_reach (h : Rp S rb l w) (i j : Int) : Calls Try.prog 27 #[.pointer (some ⟨rb, 0, none⟩), .int .i64 i, .int .i64 j] w fun e w' => e = .returned (.int .i64 (mrE l.length i j)) ∧ Below w.heap.size w w' := by
  have HL := Lib.hid (pa_len h)
  have HBR := Lib.hid (Below.refl w.heap.size w)
  obtain ⟨n, hn⟩ : ∃ n, l.length = n := ⟨_, rfl⟩
  rw [hn] at HL ⊢
  clear h hn
  by_cases h1 : i < 0
  · have d1 : decide (i < 0) = true := decide_eq_true h1
    rw [mrE_no (by omega)]
    clear h1
    go_enter Try.func27, Try.ntmps27
    go_wp2
    go_ret
    exact ⟨rfl, HBR.out⟩
  · have d1 : decide (i < 0) = false := decide_eq_false h1
    by_cases h2 : j < i
    · have d2 : decide (j < i) = true := decide_eq_true h2
      rw [mrE_no (by omega)]
      clear h1 h2
      go_enter Try.func27, Try.ntmps27
      go_wp2
      go_ret
      exact ⟨rfl, HBR.out⟩
    · have d2 : decide (j < i) = false := decide_eq_false h2
      by_cases h3 : (n : Int) < j
      · have d3 : decide ((n : Int) < j) = true := decide_eq_true h3
        rw [mrE_no (by omega)]
        clear h1 h2 h3
        go_enter Try.func27, Try.ntmps27
        go_wp2_with (go_at_call 14; refine HL.out.mono ?_; rintro e w1 ⟨rfl, bb⟩; have BB := Lib.hid bb; clear bb)
        go_ret
        exact ⟨rfl, BB.out⟩
      · have d3 : decide ((n : Int) < j) = false := decide_eq_false h3
        rw [mrE_yes (by omega)]
        clear h1 h2 h3
        go_enter Try.func27, Try.ntmps27
        go_wp2_with (go_at_call 14; refine HL.out.mono ?_; rintro e w1 ⟨rfl, bb⟩; have BB := Lib.hid bb; clear bb)
        go_ret
        exact ⟨rfl, BB.out⟩
theorem pa_read2 (h : Rp S rb l w) : Calls Try.prog 24 #[.pointer (some ⟨rb, 0, none⟩)] w fun e w' => ∃ (tb : Nat) (S' : Nat → Prop) (D : Sv → Prop) (R : TC), e = .returned (.pointer (some ⟨tb, 0, none⟩)) ∧ (flat (R.el Wc) = l ∧ Pr (R.el Wc)) ∧ Sq D (wq l) S' tb R.id [R] w' ∧ (∀ k, S' k → k < w'.heap.size) ∧ Below w.heap.size w w' := by
  refine (pa_read h).mono ?_
  rintro e w' ⟨tb, S', rfl, ⟨D, R, h1, h2, h3⟩, hb⟩
  exact ⟨tb, S', D, R, rfl, h2, h1, h3, hb⟩
theorem treeAt2 {D : Sv → Prop} (R : TC) (k : Nat) {Q : Nat} (h : Sq D Q S tb R.id [R] w) (hQ : Q ≤ 4000000000) (hk : k < Wc.ln (R.el Wc)) :
    Calls Try.prog 25 #[.pointer (some ⟨tb, 0, none⟩), .int .i64 (k : Nat)] w fun e w' => ∃ (cx : Array Value) (j : Int) (x : Ck), e = .returned (.tuple #[.agg cx, .int .i64 j]) ∧ cx = krow x ∧ (flat (R.el Wc)).getD k [] = x.d.s ∧ D x.d ∧ Below w.heap.size w w' := by
  refine (treeAt_any R k h hQ hk).mono ?_
  rintro e w' ⟨x, j, pre, rfl, j2, hb⟩
  have h2 := hit_get j2
  obtain ⟨post, q1, -⟩ := j2
  exact ⟨_, j, x, rfl, rfl, h2, h.dmem (T := R) (by simp) (by rw [q1]; simp), hb⟩
def atE (l : List (List Att)) (i : Int) : Int := if 0 ≤ i ∧ i < (l.length : Nat) then 0 else 5
set_option maxHeartbeats 1000000 in
theorem pa_at_in (h : Rp S rb l w) (hQ : l.length ≤ 100000) (i : Nat) (hi : i < l.length) : Calls Try.prog 9 #[.pointer (some ⟨rb, 0, none⟩), .int .i64 (i : Nat)] w fun e w' => ∃ u, e = .returned (.tuple #[u, .int .i64 0]) ∧ Own5 w w' u (l.getD i []) ∧ Below w.heap.size w w' := by
  have HQ := Lib.hid (show wq l ≤ 4000000000 ∧ i < l.length by unfold wq; exact ⟨by omega, hi⟩)
  have HL := Lib.hid (pa_len h)
  have HRD := Lib.hid (fun (w' : World) (hb : Below w.heap.size w w') => pa_read2 (h.below hb))
  have d1 : decide (((i : Nat) : Int) < 0) = false := decide_eq_false (by omega)
  have d2 : decide (((l.length : Nat) : Int) ≤ ((i : Nat) : Int)) = false := decide_eq_false (by omega)
  obtain ⟨s, hv⟩ : ∃ v, l.getD i [] = v := ⟨_, rfl⟩
  have HV := Lib.hid hv
  rw [hv]
  obtain ⟨n, hn⟩ : ∃ n, l.length = n := ⟨_, rfl⟩
  have HN := Lib.hid hn
  rw [hn] at d2 HL
  have d3 : decide (n ≤ i) = false := decide_eq_false (by omega)
  clear h hQ hi hv hn
  go_enter Try.func9, Try.ntmps9
  go_wp2_with (first
    | (go_at_call 14; refine HL.out.mono ?_; clear HL; rintro e w1 ⟨rfl, bb⟩; have B1 := Lib.hid bb; clear bb)
    | (go_at_call 24; refine (HRD.out _ B1.out).mono ?_; clear HRD; rintro e w2 ⟨tb, S', D, R, rfl, hr, ss, -, bb⟩; have SS := Lib.hid ss; have HR := Lib.hid hr; have B2 := Lib.hid (below_add B1.out bb B1.out.size); clear ss bb hr)
    | (go_at_call 25; refine (treeAt2 R i SS.out HQ.out.1 (by rw [show Wc.ln (R.el Wc) = l.length by rw [← HR.out.1, flat_len]; rfl]; exact HQ.out.2)).mono ?_; rintro e w3 ⟨cx, j, x, rfl, hx, ht, hd, bb⟩; have HX := Lib.hid hx; have HT := Lib.hid (show x.d.s = s by rw [← ht, HR.out.1, HV.out]); have HD := Lib.hid (SS.out.reads hd); have B23 := Lib.hid bb; have Z2 := Lib.hid bb.size; have B3 := Lib.hid ((below_add B2.out bb B2.out.size).alloc (by have := B2.out.size; have := bb.size; omega) (.cells czr 61)); have Z3 := Lib.hid (show w.heap.size ≤ w3.heap.size by have := B2.out.size; have := bb.size; omega); have V3 := Lib.hid (cb_new w3 61 czr); clear bb hx ht hd)
    | (refine wpList_store_row rfl 61 (.tmp 6) (.tmp 25) rfl w3.heap.size cx rfl rfl _ _ V3.out (xinfo (by rw [HX.out]; rfl)) (by rw [HX.out]; rfl) (by rw [HX.out]; exact krow_one x) ?_; refine with_worldTL (fun W => Cb w3.heap.size 61 cx W ∧ Below w.heap.size w W ∧ Below w2.heap.size w2 W) ⟨V3.out.set cx, below_row B3.out Z3.out, below_row ((B23.out).alloc B23.out.size (.cells czr 61)) Z2.out⟩ fun W4 hW4 => ?_; have B4 := Lib.hid hW4.2.1; have A4 := Lib.hid (HD.out.1.below hW4.2.2 (Nat.le_refl _)); have c6 : W4.cell? ⟨w3.heap.size, 1, none⟩ = some x.d.v := (hW4.1.cell 1).trans (by rw [HX.out]; rfl); clear hW4)
    | (go_at_call 26; refine (copy_any5 _ _ _ A4.out HD.out.2).mono ?_; rintro e w5 ⟨u, rfl, ho, bb⟩; have HO := Lib.hid ho; have B5 := Lib.hid bb; clear ho bb))
  go_ret2
  refine ⟨u, rfl, ?_, below_add B4.out B5.out B4.out.size⟩
  have := HO.out
  rw [HT.out] at this
  exact owns_mono this B4.out.size
theorem pa_at_out (h : Rp S rb l w) (i : Int) (hi : ¬ (0 ≤ i ∧ i < (l.length : Nat))) : Calls Try.prog 9 #[.pointer (some ⟨rb, 0, none⟩), .int .i64 i] w fun e w' => e = .returned (.tuple #[.slice none 0 0, .int .i64 5]) ∧ Below w.heap.size w w' := by
  have HL := Lib.hid (pa_len h)
  have HB := Lib.hid (Below.refl w.heap.size w)
  obtain ⟨n, hn⟩ : ∃ n, l.length = n := ⟨_, rfl⟩
  rw [hn] at HL hi
  clear h hn
  by_cases h1 : i < 0
  · have d1 : decide (i < 0) = true := decide_eq_true h1
    clear h1 hi
    go_enter Try.func9, Try.ntmps9
    go_wp2
    go_ret2
    exact ⟨rfl, HB.out⟩
  · have d1 : decide (i < 0) = false := decide_eq_false h1
    have d2 : decide ((n : Int) ≤ i) = true := decide_eq_true (by omega)
    clear h1 hi
    go_enter Try.func9, Try.ntmps9
    go_wp2_with (go_at_call 14; refine HL.out.mono ?_; clear HL; rintro e w1 ⟨rfl, bb⟩; have B1 := Lib.hid bb; clear bb)
    go_ret2
    exact ⟨rfl, B1.out⟩
end
end Go.Proofs.Yteodfbkfpboehaa
