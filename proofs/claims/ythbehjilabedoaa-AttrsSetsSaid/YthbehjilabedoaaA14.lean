
import Derived.Test.YthbehjilabedoaaA13
/- A14: the reference's With -/
namespace Go.Proofs.Ythbehjilabedoaa
open Go.RowKit
set_option linter.unusedVariables false

/-- What the reference's loop does with one attribute more. -/
def wstep (a : Att) (s : List Att × Bool) (x : Att) : List Att × Bool := if !s.2 && decide (a.key < x.key) then (s.1 ++ [a] ++ [x], true) else (s.1 ++ [x], s.2)
def wfold (a : Att) (l : List Att) : List Att × Bool := l.foldl (wstep a) ([], false)
theorem wfold_nil (a : Att) : wfold a [] = ([], false) := rfl
theorem wfold_snoc (a : Att) {l : List Att} {k : Nat} (h : k < l.length) : wfold a (l.take (k + 1)) = wstep a (wfold a (l.take k)) l[k] := by
  unfold wfold; rw [atake_snoc h, List.foldl_append]; rfl
theorem wfold_end (a : Att) (l : List Att) : wfold a (l.take l.length) = wfold a l := by rw [List.take_of_length_le (Nat.le_refl _)]
def wdone (a : Att) (l : List Att) : List Att := if (wfold a l).2 then (wfold a l).1 else (wfold a l).1 ++ [a]
theorem wfold_len (a : Att) (l : List Att) (k : Nat) (h : k ≤ l.length) : (wfold a (l.take k)).1.length ≤ k + 1 ∧ ((wfold a (l.take k)).2 = false → (wfold a (l.take k)).1.length ≤ k) := by
  induction k with
  | zero => simp [wfold_nil]
  | succ k ih =>
    obtain ⟨h1, h2⟩ := ih (by omega)
    rw [wfold_snoc a (by omega)]
    unfold wstep
    cases hb : (wfold a (l.take k)).2
    · have := h2 hb
      split <;> simp <;> omega
    · simp; omega
theorem wfold_below (a : Att) : ∀ (l : List Att) (s : List Att × Bool), (∀ x ∈ l, x.key < a.key) → l.foldl (wstep a) s = (s.1 ++ l, s.2)
  | [], s, _ => by simp
  | x :: r, s, h => by
    have hx := h x (by simp)
    have e : wstep a s x = (s.1 ++ [x], s.2) := by
      unfold wstep; rw [if_neg]; simp; intro _; omega
    rw [List.foldl_cons, e, wfold_below a r _ (fun y hy => h y (by simp [hy]))]
    simp
theorem wfold_in (a : Att) : ∀ (l : List Att) (s : List Att), l.foldl (wstep a) (s, true) = (s ++ l, true)
  | [], s => by simp
  | x :: r, s => by
    have e : wstep a (s, true) x = (s ++ [x], true) := by unfold wstep; simp
    rw [List.foldl_cons, e, wfold_in a r]
    simp
/-- Of keys that rise, the reference's With is the set with the attribute in its place. -/
theorem wdone_eq {xs : List Att} (a : Att) (hr : Rise xs) : wdone a (wout5 xs a.key) = with5 xs a := by
  have hw : wout5 xs a.key = lo5 xs a.key ++ hi5 xs a.key := by
    unfold wout5 lo5 hi5
    induction xs with
    | nil => rfl
    | cons x r ih =>
      obtain ⟨h1, h2⟩ := List.pairwise_cons.1 hr
      have ih := ih h2
      simp only [List.filter_cons]
      by_cases q1 : x.key < a.key
      · have e1 : (x.key != a.key) = true := by simp; omega
        have e3 : ¬ a.key < x.key := by omega
        simp [e1, q1, e3, ih]
      · have hall : ∀ y ∈ r, ¬ y.key < a.key := fun y hy => by have := h1 y hy; omega
        have e0 : r.filter (fun a_1 => decide (a_1.key < a.key)) = [] := filter_none (fun y hy => by simpa using hall y hy)
        rw [e0, List.nil_append] at ih
        by_cases q2 : x.key = a.key
        · simp [q2, e0, ih]
        · have e1 : (x.key != a.key) = true := by simpa using q2
          have e3 : a.key < x.key := by omega
          simp [e1, q1, e3, e0, ih]
  unfold wdone
  have h1 : wfold a (wout5 xs a.key) = (hi5 xs a.key).foldl (wstep a) (lo5 xs a.key, false) := by
    unfold wfold
    rw [hw, List.foldl_append, wfold_below a (lo5 xs a.key) ([], false) (fun x hx => by have := (List.mem_filter.1 hx).2; simpa using this)]
    simp
  rw [h1]
  unfold with5
  cases hh : hi5 xs a.key with
  | nil => simp
  | cons y r =>
    have hy : a.key < y.key := by
      have : y ∈ hi5 xs a.key := by rw [hh]; simp
      simpa using (List.mem_filter.1 this).2
    have e : wstep a (lo5 xs a.key, false) y = (lo5 xs a.key ++ [a] ++ [y], true) := by unfold wstep; simp [hy]
    rw [List.foldl_cons, e, wfold_in]
    simp

theorem _root_.Go.RowKit.Below.drewN' {B : Nat} {a w : World} (h : Below B a w) (n : Nat) : Below B a (w.drewN n) := h.trans ⟨rfl, rfl, rfl, Nat.le_refl _, fun _ _ => rfl⟩

/-- The loop's state. -/
def WithRel (W : World) (a : Att) (l : List Att) (k : Nat) (v : Value) (b : Bool) (wr : World) : Prop := b = (wfold a (l.take k)).2 ∧ Grows W (wfold a (l.take k)).1 v wr
theorem with_next {W wr : World} {a : Att} {l : List Att} {k : Nat} {v : Value} {b : Bool} {ls : List Att} (hlt : k < l.length) (hs : wstep a (wfold a (l.take k)) l[k] = (ls, b)) (hg : Grows W ls v wr) : WithRel W a l (k + 1) v b wr := by
  unfold WithRel
  rw [wfold_snoc a hlt, hs]
  exact ⟨rfl, hg⟩

set_option maxRecDepth 100000 in
set_option maxHeartbeats 2000000 in
theorem rwith_any5 (v : Value) (xs : List Att) (a : Att) (w : World) (hv : Arow w v xs) (hl : xs.length ≤ 1000) :
    Calls Try.prog 23 #[v, av a] w fun e w' => ∃ u, e = .returned u ∧ Own5 w w' u (wdone a (wout5 xs a.key)) ∧ Below w.heap.size w w' := by
  obtain ⟨i0, hi, hz0, hz1, hz2⟩ := info_att5
  have hB := (Below.refl w.heap.size w).alloc (Nat.le_refl _) (.cells (aca a) 28)
  have hbx := ABox.box a w 28
  have HW := Lib.hid (rwithout_any5 v xs a.key _ (hv.below hB (Nat.le_refl _)) hl)
  have hle := wout_le xs a.key
  clear hv
  generalize wout5 xs a.key = l at *
  have hl2 : l.length ≤ 1000 := by omega
  clear hle hl
  have hfin : ∀ (W wr : World) (u : Value), Below w.heap.size w W → Grows W (wdone a l) u wr → Own5 w wr u (wdone a l) ∧ Below w.heap.size w wr := fun W wr u h g => ⟨owns_mono g.1 h.size, below_add h g.2 h.size⟩
  have hlen := fun k h => wfold_len a l k h
  have hend := wfold_end a l
  have hnext := fun W wr k v b ls hlt hs hg => with_next (W := W) (wr := wr) (a := a) (l := l) (k := k) (v := v) (b := b) (ls := ls) hlt hs hg
  have hdone : wdone a l = if (wfold a l).2 then (wfold a l).1 else (wfold a l).1 ++ [a] := rfl
  have HFIN := Lib.hid hfin
  have HLEN := Lib.hid hlen
  have HEND := Lib.hid hend
  have HNEXT := Lib.hid hnext
  have HDONE := Lib.hid hdone
  clear hfin hlen hend hnext hdone
  obtain ⟨a1, a2, a3, a4, a5⟩ := a
  go_enter Try.func23, Try.ntmps23
  go_wp2_with (go_at_call 24; refine HW.out.mono ?_; rintro e W ⟨u0, rfl, hown0, hb0⟩)
  have hrow := hown0.row
  have hBW := below_add hB hb0 hB.size
  have hBOX := hbx.below hb0 (by simp)
  have hWs : w.heap.size < W.heap.size := hBOX.lt
  obtain ⟨q1, cap1, rfl⟩ := hrow.shape
  have HB := Lib.hid hBW
  have HROW := Lib.hid hrow
  have HBOX := Lib.hid hBOX
  clear hown0 hb0 hrow hBW hBOX hbx hB HW
  by_cases h0 : 0 < l.length
  · obtain ⟨b1, o1, rfl, -, -, -, hbl, hat⟩ := Arow.opn HROW.out h0
    have HAT := Lib.hid hat
    clear hat
    go_loopw [6, 7, 8] (fun s6 s7 s8 wr => ∃ (k : Nat) (b : Bool), k ≤ l.length ∧ s8 = .int .i64 k ∧ s7 = .bool b ∧ WithRel W ⟨a1, a2, a3, a4, a5⟩ l k s6 b wr) (fun _ _ s8 _ => l.length - (intOf s8).toNat)
    case atStart => exact ⟨0, false, Nat.zero_le _, rfl, rfl, rfl, own5_nil _ _, Below.refl _ _⟩
    case round =>
      obtain ⟨k, b, hk, rfl, rfl, hbb, hR⟩ := hrel
      by_cases hlt : k < l.length
      · have hAT := (HAT.out k hlt).below hR.2 hbl
        have hBX := HBOX.out.below hR.2 hWs
        have hln := HLEN.out k hk
        have HN := Lib.hid (fun wr v b ls => HNEXT.out W wr k v b ls hlt)
        have hsz := hR.2.size
        have hblr : b1 < wr.heap.size := by omega
        generalize wfold ⟨a1, a2, a3, a4, a5⟩ (l.take k) = st at *
        obtain ⟨ls, bb⟩ := st
        simp only at hbb hR hln
        subst hbb
        have HR := Lib.hid hR
        clear hR
        have HTW := Lib.hid (HAT.out k hlt)
        generalize l[k] = x at *
        have HT := Lib.hid hAT
        have HX := Lib.hid hBX
        obtain ⟨c0, c1, c2, c3, c4⟩ := hAT
        obtain ⟨d0, d1, d2, d3, d4⟩ := hBX
        obtain ⟨x1, x2, x3, x4, x5⟩ := x
        simp only at c0 c1 c2 c3 c4 d0 d1 d2 d3 d4
        cases b
        · have hll := hln.2 rfl
          clear hln
          by_cases hc : a1 < x1
          · have HS2 := Lib.hid (show wstep ⟨a1, a2, a3, a4, a5⟩ (ls, false) ⟨x1, x2, x3, x4, x5⟩ = (ls ++ [⟨a1, a2, a3, a4, a5⟩] ++ [⟨x1, x2, x3, x4, x5⟩], true) by unfold wstep; simp [hc])
            have e1 : decide (a1 < x1) = true := by simpa using hc
            clear hc
            go_wp2
            go_quiet (fail)
            have HR1 := Lib.hid (grows_stay HR.out ((Below.refl _ _).drewN' nq))
            go_wp2_with (first
              | (at_builtin; refine wpList_append_row (C := attC) rfl (.tmp 31) (.tmp 33) 23 rfl W.heap.size 28 i0 (av noAtt) 48 Try.underlying23 hi hz0 hz1 hz2 rfl _ _ _ rfl (owns_below HR1.out.1 ((Below.refl _ _).alloc (Nat.le_refl _) _)) _ [⟨a1, a2, a3, a4, a5⟩] rfl (row_new0 _ ⟨a1, a2, a3, a4, a5⟩ 28) (by unfold maxLen; simp; omega) (by simp; omega) (by simp; omega) ?_; intro v3 w3 hown3 hgrow3; have HC := Lib.hid (grows_more HR1.out ((Below.refl _ _).alloc (Nat.le_refl _) _) hown3 hgrow3); obtain ⟨f0, f1, f2, f3, f4⟩ := HTW.out.below HC.out.2 hbl; have hs3 := HC.out.2.size; clear hown3 hgrow3)
              | (at_builtin; refine wpList_append_row (C := attC) rfl (.tmp 35) (.tmp 40) 23 rfl W.heap.size 28 i0 (av noAtt) 48 Try.underlying23 hi hz0 hz1 hz2 rfl _ _ _ rfl (owns_below HC.out.1 ((Below.refl _ _).alloc (Nat.le_refl _) _)) _ [⟨x1, x2, x3, x4, x5⟩] rfl (row_new0 _ ⟨x1, x2, x3, x4, x5⟩ 28) (by unfold maxLen; simp; omega) (by simp; omega) (by simp; omega) ?_; intro v4 w4 hown4 hgrow4))
            have HC4 := Lib.hid (grows_more HC.out ((Below.refl _ _).alloc (Nat.le_refl _) _) hown4 hgrow4)
            go_roundw
            case rel => exact ⟨k + 1, true, by omega, by go_num, rfl, HN.out _ _ _ _ HS2.out HC4.out⟩
            case measure => simp [intOf]; omega
          · have HS2 := Lib.hid (show wstep ⟨a1, a2, a3, a4, a5⟩ (ls, false) ⟨x1, x2, x3, x4, x5⟩ = (ls ++ [⟨x1, x2, x3, x4, x5⟩], false) by unfold wstep; simp [hc])
            have e1 : decide (a1 < x1) = false := by simpa using hc
            clear hc
            go_wp2
            go_quiet (fail)
            have HR1 := Lib.hid (grows_stay HR.out ((Below.refl _ _).drewN' nq))
            go_wp2_with (at_builtin; refine wpList_append_row (C := attC) rfl (.tmp 35) (.tmp 40) 23 rfl W.heap.size 28 i0 (av noAtt) 48 Try.underlying23 hi hz0 hz1 hz2 rfl _ _ _ rfl (owns_below HR1.out.1 ((Below.refl _ _).alloc (Nat.le_refl _) _)) _ [⟨x1, x2, x3, x4, x5⟩] rfl (row_new0 _ ⟨x1, x2, x3, x4, x5⟩ 28) (by unfold maxLen; simp; omega) (by simp; omega) (by simp; omega) ?_; intro v3 w3 hown3 hgrow3)
            have HC := Lib.hid (grows_more HR1.out ((Below.refl _ _).alloc (Nat.le_refl _) _) hown3 hgrow3)
            go_roundw
            case rel => exact ⟨k + 1, false, by omega, by go_num, rfl, HN.out _ _ _ _ HS2.out HC.out⟩
            case measure => simp [intOf]; omega
        · have hll := hln.1
          clear hln
          have HS2 := Lib.hid (show wstep ⟨a1, a2, a3, a4, a5⟩ (ls, true) ⟨x1, x2, x3, x4, x5⟩ = (ls ++ [⟨x1, x2, x3, x4, x5⟩], true) by unfold wstep; simp)
          go_wp2
          go_quiet (fail)
          have HR1 := Lib.hid (grows_stay HR.out ((Below.refl _ _).drewN' nq))
          go_wp2_with (at_builtin; refine wpList_append_row (C := attC) rfl (.tmp 35) (.tmp 40) 23 rfl W.heap.size 28 i0 (av noAtt) 48 Try.underlying23 hi hz0 hz1 hz2 rfl _ _ _ rfl (owns_below HR1.out.1 ((Below.refl _ _).alloc (Nat.le_refl _) _)) _ [⟨x1, x2, x3, x4, x5⟩] rfl (row_new0 _ ⟨x1, x2, x3, x4, x5⟩ 28) (by unfold maxLen; simp; omega) (by simp; omega) (by simp; omega) ?_; intro v3 w3 hown3 hgrow3)
          have HC := Lib.hid (grows_more HR1.out ((Below.refl _ _).alloc (Nat.le_refl _) _) hown3 hgrow3)
          go_roundw
          case rel => exact ⟨k + 1, true, by omega, by go_num, rfl, HN.out _ _ _ _ HS2.out HC.out⟩
          case measure => simp [intOf]; omega
      · obtain rfl : k = l.length := by omega
        rw [HEND.out] at hR hbb
        have hd := HDONE.out
        have hln := HLEN.out l.length (Nat.le_refl _)
        rw [HEND.out] at hln
        have hBX := HBOX.out.below hR.2 hWs
        have hsz := hR.2.size
        generalize wfold ⟨a1, a2, a3, a4, a5⟩ l = st at *
        obtain ⟨ls, bb⟩ := st
        simp only at hbb hR hd hln
        subst hbb
        have HR := Lib.hid hR
        clear hR
        obtain ⟨d0, d1, d2, d3, d4⟩ := hBX
        simp only at d0 d1 d2 d3 d4
        cases b
        · have hll := hln.2 rfl
          clear hln
          rw [if_neg Bool.false_ne_true] at hd
          have HD := Lib.hid hd
          clear hd
          go_wp2_with (at_builtin; refine wpList_append_row (C := attC) rfl (.tmp 44) (.tmp 46) 23 rfl W.heap.size 28 i0 (av noAtt) 48 Try.underlying23 hi hz0 hz1 hz2 rfl _ _ _ rfl (owns_below HR.out.1 ((Below.refl _ _).alloc (Nat.le_refl _) _)) _ [⟨a1, a2, a3, a4, a5⟩] rfl (row_new0 _ ⟨a1, a2, a3, a4, a5⟩ 28) (by unfold maxLen; simp; omega) (by simp; omega) (by simp; omega) ?_; intro v3 w3 hown3 hgrow3)
          have HC := Lib.hid (grows_more HR.out ((Below.refl _ _).alloc (Nat.le_refl _) _) hown3 hgrow3)
          go_wp2
          go_ret
          exact ⟨_, rfl, HFIN.out _ _ _ HB.out (by rw [HD.out]; exact HC.out)⟩
        · rw [if_pos rfl] at hd
          have HD := Lib.hid hd
          clear hd hln
          go_wp2
          go_ret
          exact ⟨_, rfl, HFIN.out _ _ _ HB.out (by rw [HD.out]; exact HR.out)⟩
  · obtain rfl : l = [] := List.eq_nil_of_length_eq_zero (by omega)
    clear h0 hl2 HLEN HEND HNEXT
    obtain ⟨d0, d1, d2, d3, d4⟩ := HBOX.out
    simp only at d0 d1 d2 d3 d4
    have hini : Grows W [] (.slice none 0 0) W := ⟨own5_nil _ _, Below.refl _ _⟩
    have HI := Lib.hid hini
    clear hini
    refine wp_loop_rounds 1 ?_
    rw [rounds_succ]
    go_wp2_with (at_builtin; refine wpList_append_row (C := attC) rfl (.tmp 44) (.tmp 46) 23 rfl W.heap.size 28 i0 (av noAtt) 48 Try.underlying23 hi hz0 hz1 hz2 rfl _ _ _ rfl (owns_below HI.out.1 ((Below.refl _ _).alloc (Nat.le_refl _) _)) _ [⟨a1, a2, a3, a4, a5⟩] rfl (row_new0 _ ⟨a1, a2, a3, a4, a5⟩ 28) (by unfold maxLen; simp) (by simp) (by simp) ?_; intro v3 w3 hown3 hgrow3)
    have HC := Lib.hid (grows_more HI.out ((Below.refl _ _).alloc (Nat.le_refl _) _) hown3 hgrow3)
    go_wp2
    go_ret
    exact ⟨_, rfl, HFIN.out _ _ _ HB.out (by rw [HDONE.out]; exact HC.out)⟩
end Go.Proofs.Ythbehjilabedoaa
