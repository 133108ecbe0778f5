
import Derived.Test.YthcakinllcffoaaH5
/- H6: the reference's Put, Apply, hold -/
namespace Go.Proofs.Ythcakinllcffoaa
open Go.RowKit
set_option linter.unusedVariables false

/-- What the reference's loop does with one change more. -/
def pstep (c : Chg) (s : List Chg × Bool) (x : Chg) : List Chg × Bool :=
  let s1 := if !s.2 && decide (c.key ≤ x.key) then (s.1 ++ [c], true) else s
  if x.key = c.key then s1 else (s1.1 ++ [x], s1.2)
def pfold (c : Chg) (l : List Chg) : List Chg × Bool := l.foldl (pstep c) ([], false)
theorem pfold_snoc (c : Chg) {l : List Chg} {k : Nat} (h : k < l.length) : pfold c (l.take (k + 1)) = pstep c (pfold c (l.take k)) l[k] := by
  unfold pfold; rw [tsnoc h, List.foldl_append]; rfl
theorem pfold_end (c : Chg) (l : List Chg) : pfold c (l.take l.length) = pfold c l := by rw [tend]
def pdone (c : Chg) (l : List Chg) : List Chg := if (pfold c l).2 then (pfold c l).1 else (pfold c l).1 ++ [c]
theorem pfold_len (c : Chg) (l : List Chg) : ∀ k, k ≤ l.length → (pfold c (l.take k)).1.length ≤ k + 1 ∧ ((pfold c (l.take k)).2 = false → (pfold c (l.take k)).1.length ≤ k)
  | 0, _ => by simp [pfold]
  | k + 1, h => by
    have ih := pfold_len c l k (by omega)
    rw [pfold_snoc c (by omega : k < l.length)]
    generalize pfold c (l.take k) = st at ih ⊢
    obtain ⟨s, b⟩ := st
    simp only at ih
    unfold pstep
    cases b
    · simp only [Bool.not_false, Bool.true_and]
      have := ih.2 rfl
      by_cases h1 : c.key ≤ l[k].key
      · simp only [h1, decide_true, if_true]
        split
        · simp; omega
        · simp; omega
      · simp only [h1, decide_false, Bool.false_eq_true, if_false]
        split
        · simp; omega
        · simp; omega
    · simp only [Bool.not_true, Bool.false_and, Bool.false_eq_true, if_false]
      split
      · simp; omega
      · simp; omega
/-- A patch with a change, by rising keys. -/
def put6 (c : Chg) : List Chg → List Chg
  | [] => [c]
  | x :: r => if x.key < c.key then x :: put6 c r else if x.key = c.key then c :: r else c :: x :: r
theorem pfold_in (c : Chg) : ∀ (l : List Chg) (s : List Chg), (∀ x ∈ l, c.key < x.key) → l.foldl (pstep c) (s, true) = (s ++ l, true)
  | [], s, _ => by simp
  | x :: r, s, h => by
    have hx := h x (by simp)
    have e : pstep c (s, true) x = (s ++ [x], true) := by
      unfold pstep
      simp only [Bool.not_true, Bool.false_and, Bool.false_eq_true, if_false]
      rw [if_neg (by omega)]
    rw [List.foldl_cons, e, pfold_in c r _ (fun y hy => h y (by simp [hy]))]
    simp
theorem pfold_put (c : Chg) : ∀ (l : List Chg) (s : List Chg), RiseC l →
    (if (l.foldl (pstep c) (s, false)).2 then (l.foldl (pstep c) (s, false)).1 else (l.foldl (pstep c) (s, false)).1 ++ [c]) = s ++ put6 c l
  | [], s, _ => by simp [put6]
  | x :: r, s, h => by
    obtain ⟨h1, h2⟩ := rise_gt h
    rw [List.foldl_cons]
    unfold put6
    by_cases q1 : x.key < c.key
    · have e : pstep c (s, false) x = (s ++ [x], false) := by
        unfold pstep
        have : ¬ c.key ≤ x.key := by omega
        simp only [this, decide_false, Bool.and_false, Bool.false_eq_true, if_false]
        rw [if_neg (by omega)]
      rw [e, if_pos q1, pfold_put c r _ h1]
      simp
    · rw [if_neg q1]
      by_cases q2 : x.key = c.key
      · have e : pstep c (s, false) x = (s ++ [c], true) := by
          unfold pstep
          have : c.key ≤ x.key := by omega
          simp only [this, decide_true, Bool.not_false, Bool.and_self, if_true]
          rw [if_pos q2]
        rw [e, if_pos q2, pfold_in c r _ (fun y hy => by have := h2 y hy; omega)]
        simp
      · have e : pstep c (s, false) x = (s ++ [c] ++ [x], true) := by
          unfold pstep
          have : c.key ≤ x.key := by omega
          simp only [this, decide_true, Bool.not_false, Bool.and_self, if_true]
          rw [if_neg q2]
        rw [e, if_neg q2, pfold_in c r _ (fun y hy => by have := h2 y hy; omega)]
        simp
theorem pdone_put (c : Chg) {l : List Chg} (h : RiseC l) : pdone c l = put6 c l := by
  have := pfold_put c l [] h
  unfold pdone pfold
  rw [this]
  simp
theorem put6_get (c : Chg) : ∀ {l : List Chg}, RiseC l → RiseC (put6 c l) ∧ (∀ k, getC (put6 c l) k = if k = c.key then some c else getC l k) ∧ (∀ y ∈ put6 c l, y = c ∨ y ∈ l)
  | [], _ => by
    refine ⟨by simp [put6, RiseC], fun k => ?_, by simp [put6]⟩
    unfold put6
    rw [getC_cons, getC_nil]
    by_cases e : c.key = k
    · rw [if_pos e, if_pos e.symm]
    · rw [if_neg e, if_neg (fun h => e h.symm)]
  | x :: r, h => by
    obtain ⟨h1, h2⟩ := rise_gt h
    obtain ⟨i1, i2, i3⟩ := put6_get c h1
    unfold put6
    by_cases q1 : x.key < c.key
    · rw [if_pos q1]
      refine ⟨List.pairwise_cons.2 ⟨fun y hy => ?_, i1⟩, fun k => ?_, fun y hy => ?_⟩
      · rcases i3 y hy with e | hy
        · rw [e]; exact q1
        · exact h2 y hy
      · rw [getC_cons, i2, getC_cons]
        by_cases e : x.key = k
        · rw [if_pos e, if_pos e, if_neg (by omega)]
        · rw [if_neg e, if_neg e]
      · rcases List.mem_cons.1 hy with e | hy
        · exact .inr (by rw [e]; simp)
        · rcases i3 y hy with e | hy
          · exact .inl e
          · exact .inr (by simp [hy])
    · rw [if_neg q1]
      by_cases q2 : x.key = c.key
      · rw [if_pos q2]
        refine ⟨List.pairwise_cons.2 ⟨fun y hy => by have := h2 y hy; omega, h1⟩, fun k => ?_, fun y hy => ?_⟩
        · rw [getC_cons, getC_cons, q2]
          by_cases e : c.key = k
          · rw [if_pos e, if_pos e.symm]
          · rw [if_neg e, if_neg (fun h => e h.symm), if_neg e]
        · rcases List.mem_cons.1 hy with e | hy
          · exact .inl e
          · exact .inr (by simp [hy])
      · rw [if_neg q2]
        refine ⟨List.pairwise_cons.2 ⟨fun y hy => ?_, h⟩, fun k => ?_, fun y hy => ?_⟩
        · rcases List.mem_cons.1 hy with e | hy
          · rw [e]; omega
          · have := h2 y hy; omega
        · rw [getC_cons]
          by_cases e : c.key = k
          · rw [if_pos e, if_pos e.symm]
          · rw [if_neg e, if_neg (fun h => e h.symm)]
        · rcases List.mem_cons.1 hy with e | hy
          · exact .inl e
          · exact .inr hy
theorem put6_len (c : Chg) : ∀ (l : List Chg), (put6 c l).length ≤ l.length + 1
  | [] => by simp [put6]
  | x :: r => by
    have := put6_len c r
    unfold put6
    split
    · simp; omega
    · split
      · simp
      · simp

/-- The loop's state. -/
def PutRel (W : World) (c : Chg) (l : List Chg) (k : Nat) (v : Value) (b : Bool) (wr : World) : Prop := b = (pfold c (l.take k)).2 ∧ Grows6 W (pfold c (l.take k)).1 v wr
theorem put_next {W wr : World} {c : Chg} {l : List Chg} {k : Nat} {v : Value} {b : Bool} {ls : List Chg} (hlt : k < l.length) (hs : pstep c (pfold c (l.take k)) l[k] = (ls, b)) (hg : Grows6 W ls v wr) : PutRel W c l (k + 1) v b wr := by
  unfold PutRel; rw [pfold_snoc c hlt, hs]; exact ⟨rfl, hg⟩

set_option maxRecDepth 100000 in
set_option maxHeartbeats 4000000 in
theorem rput_any (v : Value) (l : List Chg) (c : Chg) (w : World) (hv : Crow w v l) (hl2 : l.length ≤ 1000000) :
    Calls Try.prog 43 #[v, cv c] w fun e w' => ∃ u, e = .returned u ∧ Own6 w w' u (pdone c l) ∧ Below w.heap.size w w' := by
  obtain ⟨i0, hi, hz0, hz1, hz2⟩ := info_ch
  have HB := Lib.hid (kbelow_one w (.cells (cca c) 49))
  have HBOX := Lib.hid (CBox.box c w 49)
  have HROW := Lib.hid (hv.below HB.out (Nat.le_refl _))
  obtain ⟨q1, cap1, rfl⟩ := hv.shape
  clear hv
  have hfin : ∀ (W wr : World) (u : Value), Below w.heap.size w W → Grows6 W (pdone c l) u wr → Own6 w wr u (pdone c l) ∧ Below w.heap.size w wr := fun W wr u h g => ⟨owns_mono g.1 h.size, below_add h g.2 h.size⟩
  have HFIN := Lib.hid hfin
  have HLEN := Lib.hid (fun k h => pfold_len c l k h)
  have HEND := Lib.hid (pfold_end c l)
  have HNEXT := Lib.hid (fun W wr k v b ls hlt hs hg => put_next (W := W) (wr := wr) (c := c) (l := l) (k := k) (v := v) (b := b) (ls := ls) hlt hs hg)
  have HDONE := Lib.hid (show pdone c l = if (pfold c l).2 then (pfold c l).1 else (pfold c l).1 ++ [c] from rfl)
  clear hfin
  obtain ⟨a1, a2, a3, a4, a5, a6⟩ := c
  go_enter Try.func43, Try.ntmps43
  go_wp2_with fail
  obtain ⟨W, hW⟩ : ∃ W, w.alloc (.cells (cca ⟨a1, a2, a3, a4, a5, a6⟩) 49) = W := ⟨_, rfl⟩
  have hW2 : w.alloc (.cells #[.int .i64 a1, .bool a2, .int .u8 a3, .int .i64 a4, .int .u64 a5, .string a6] 49) = W := hW
  rw [hW] at HB HBOX HROW
  rw [hW2]
  clear hW hW2
  have hWs : w.heap.size < W.heap.size := HBOX.out.lt
  by_cases h0 : 0 < l.length
  · obtain ⟨b1, o1, rfl, -, -, -, hbl, hat⟩ := Crow.opn HROW.out h0
    have HAT := Lib.hid hat
    clear hat
    go_loopw [5, 6, 7] (fun s5 s6 s7 wr => ∃ (k : Nat) (b : Bool), k ≤ l.length ∧ s7 = .int .i64 k ∧ s6 = .bool b ∧ PutRel W ⟨a1, a2, a3, a4, a5, a6⟩ l k s5 b wr) (fun _ _ s7 _ => l.length - (intOf s7).toNat)
    case atStart => exact ⟨0, false, Nat.zero_le _, rfl, rfl, rfl, grows6_nil _ _ (Below.refl _ _)⟩
    case round =>
      obtain ⟨k, b, hk, rfl, rfl, hbb, hR⟩ := hrel
      by_cases hlt : k < l.length
      · have hAT := (HAT.out k hlt).below hR.2 hbl
        have hBX := HBOX.out.below hR.2 hWs
        have hln := HLEN.out k hk
        have HN := Lib.hid (fun wr v b ls => HNEXT.out W wr k v b ls hlt)
        have hsz := hR.2.size
        generalize pfold ⟨a1, a2, a3, a4, a5, a6⟩ (l.take k) = st at *
        obtain ⟨ls, bb⟩ := st
        simp only at hbb hR hln
        subst hbb
        have HR := Lib.hid hR
        clear hR
        have HTW := Lib.hid (HAT.out k hlt)
        generalize l[k] = x at *
        obtain ⟨c0, c1, c2, c3, c4, c5⟩ := hAT
        obtain ⟨d0, d1, d2, d3, d4, d5⟩ := hBX
        obtain ⟨x1, x2, x3, x4, x5, x6⟩ := x
        simp only at c0 c1 c2 c3 c4 c5 d0 d1 d2 d3 d4 d5
        cases b
        · have hll := hln.2 rfl
          clear hln
          by_cases hc : a1 ≤ x1
          · by_cases hq : x1 = a1
            · subst hq
              clear hc
              have HS2 := Lib.hid (show pstep ⟨x1, a2, a3, a4, a5, a6⟩ (ls, false) ⟨x1, x2, x3, x4, x5, x6⟩ = (ls ++ [⟨x1, a2, a3, a4, a5, a6⟩], true) by unfold pstep; simp)
              have e1 : decide (x1 ≤ x1) = true := by simp
              have e2 : (x1 != x1) = false := by simp
              go_wp2
              go_quiet (fail)
              generalize nq = q0 at *
              have HR1 := Lib.hid (grows6_stay HR.out (blw_drewN (Below.refl _ _) q0))
              go_wp2_with (at_builtin; refine wpList_append_row (C := chC) rfl (.tmp 26) (.tmp 28) 23 rfl W.heap.size 49 i0 (cv noChg) 56 Try.underlying23 hi hz0 hz1 hz2 rfl _ _ _ rfl (owns_below HR1.out.1 ((Below.refl _ _).alloc (Nat.le_refl _) _)) _ [⟨x1, a2, a3, a4, a5, a6⟩] rfl (crow_new0 _ ⟨x1, a2, a3, a4, a5, a6⟩ 49) (by unfold maxLen; simp; omega) (by simp; omega) (by simp; omega) ?_; intro v3 w3 hown3 hgrow3; have HC := Lib.hid (grows6_more HR1.out ((Below.refl _ _).alloc (Nat.le_refl _) _) hown3 hgrow3); obtain ⟨f0, f1, f2, f3, f4, f5⟩ := HTW.out.below HC.out.2 hbl; obtain ⟨g0, g1, g2, g3, g4, g5⟩ := HBOX.out.below HC.out.2 hWs; simp only at f0 f1 f2 f3 f4 f5 g0 g1 g2 g3 g4 g5; have hs3 := HC.out.2.size; clear hown3 hgrow3)
              go_quiet (fail)
              have HR2 := Lib.hid (grows6_stay HC.out (blw_drewN (Below.refl _ _) nq))
              go_wp2
              go_roundw
              case rel => exact ⟨k + 1, true, by omega, by go_num, rfl, HN.out _ _ _ _ HS2.out HR2.out⟩
              case measure => simp [intOf]; omega
            · have hne : ¬ x1 = a1 := hq
              have HS2 := Lib.hid (show pstep ⟨a1, a2, a3, a4, a5, a6⟩ (ls, false) ⟨x1, x2, x3, x4, x5, x6⟩ = (ls ++ [⟨a1, a2, a3, a4, a5, a6⟩] ++ [⟨x1, x2, x3, x4, x5, x6⟩], true) by unfold pstep; simp [hc, hq])
              have e1 : decide (a1 ≤ x1) = true := by simpa using hc
              have e2 : (x1 != a1) = true := by simpa using hq
              clear hc hq hne
              go_wp2
              go_quiet (fail)
              generalize nq = q0 at *
              have HR1 := Lib.hid (grows6_stay HR.out (blw_drewN (Below.refl _ _) q0))
              go_wp2_with (at_builtin; refine wpList_append_row (C := chC) rfl (.tmp 26) (.tmp 28) 23 rfl W.heap.size 49 i0 (cv noChg) 56 Try.underlying23 hi hz0 hz1 hz2 rfl _ _ _ rfl (owns_below HR1.out.1 ((Below.refl _ _).alloc (Nat.le_refl _) _)) _ [⟨a1, a2, a3, a4, a5, a6⟩] rfl (crow_new0 _ ⟨a1, a2, a3, a4, a5, a6⟩ 49) (by unfold maxLen; simp; omega) (by simp; omega) (by simp; omega) ?_; intro v3 w3 hown3 hgrow3; have HC := Lib.hid (grows6_more HR1.out ((Below.refl _ _).alloc (Nat.le_refl _) _) hown3 hgrow3); obtain ⟨f0, f1, f2, f3, f4, f5⟩ := HTW.out.below HC.out.2 hbl; obtain ⟨g0, g1, g2, g3, g4, g5⟩ := HBOX.out.below HC.out.2 hWs; simp only at f0 f1 f2 f3 f4 f5 g0 g1 g2 g3 g4 g5; have hs3 := HC.out.2.size; clear hown3 hgrow3)
              go_quiet (fail)
              have HR2 := Lib.hid (grows6_stay HC.out (blw_drewN (Below.refl _ _) nq))
              go_wp2_with (at_builtin; refine wpList_append_row (C := chC) rfl (.tmp 38) (.tmp 43) 23 rfl W.heap.size 49 i0 (cv noChg) 56 Try.underlying23 hi hz0 hz1 hz2 rfl _ _ _ rfl (owns_below HR2.out.1 ((Below.refl _ _).alloc (Nat.le_refl _) _)) _ [⟨x1, x2, x3, x4, x5, x6⟩] rfl (crow_new0 _ ⟨x1, x2, x3, x4, x5, x6⟩ 49) (by unfold maxLen; simp; omega) (by simp; omega) (by simp; omega) ?_; intro v4 w4 hown4 hgrow4)
              have HC4 := Lib.hid (grows6_more HR2.out ((Below.refl _ _).alloc (Nat.le_refl _) _) hown4 hgrow4)
              go_roundw
              case rel => exact ⟨k + 1, true, by omega, by go_num, rfl, HN.out _ _ _ _ HS2.out HC4.out⟩
              case measure => simp [intOf]; omega
          · have hq : ¬ x1 = a1 := by omega
            have HS2 := Lib.hid (show pstep ⟨a1, a2, a3, a4, a5, a6⟩ (ls, false) ⟨x1, x2, x3, x4, x5, x6⟩ = (ls ++ [⟨x1, x2, x3, x4, x5, x6⟩], false) by unfold pstep; simp [hc, hq])
            have e1 : decide (a1 ≤ x1) = false := by simpa using hc
            have e2 : (x1 != a1) = true := by simpa using hq
            clear hc hq
            go_wp2
            go_quiet (fail)
            generalize nq = q0 at *
            have HR1 := Lib.hid (grows6_stay HR.out (blw_drewN (Below.refl _ _) q0))
            go_wp2
            go_quiet (fail)
            have HR2 := Lib.hid (grows6_stay HR.out (blw_drewN (Below.refl _ _) (q0 + nq)))
            go_wp2_with (at_builtin; refine wpList_append_row (C := chC) rfl (.tmp 38) (.tmp 43) 23 rfl W.heap.size 49 i0 (cv noChg) 56 Try.underlying23 hi hz0 hz1 hz2 rfl _ _ _ rfl (owns_below HR2.out.1 ((Below.refl _ _).alloc (Nat.le_refl _) _)) _ [⟨x1, x2, x3, x4, x5, x6⟩] rfl (crow_new0 _ ⟨x1, x2, x3, x4, x5, x6⟩ 49) (by unfold maxLen; simp; omega) (by simp; omega) (by simp; omega) ?_; intro v4 w4 hown4 hgrow4)
            have HC4 := Lib.hid (grows6_more HR2.out ((Below.refl _ _).alloc (Nat.le_refl _) _) hown4 hgrow4)
            go_roundw
            case rel => exact ⟨k + 1, false, by omega, by go_num, rfl, HN.out _ _ _ _ HS2.out HC4.out⟩
            case measure => simp [intOf]; omega
        · have hll := hln.1
          clear hln
          by_cases hq : x1 = a1
          · subst hq
            have HS2 := Lib.hid (show pstep ⟨x1, a2, a3, a4, a5, a6⟩ (ls, true) ⟨x1, x2, x3, x4, x5, x6⟩ = (ls, true) by unfold pstep; simp)
            have e2 : (x1 != x1) = false := by simp
            go_wp2
            go_quiet (fail)
            generalize nq = q0 at *
            have HR1 := Lib.hid (grows6_stay HR.out (blw_drewN (Below.refl _ _) q0))
            go_wp2
            go_quiet (fail)
            have HR2 := Lib.hid (grows6_stay HR.out (blw_drewN (Below.refl _ _) (q0 + nq)))
            go_wp2
            go_roundw
            case rel => exact ⟨k + 1, true, by omega, by go_num, rfl, HN.out _ _ _ _ HS2.out HR2.out⟩
            case measure => simp [intOf]; omega
          · have hne : ¬ x1 = a1 := hq
            have HS2 := Lib.hid (show pstep ⟨a1, a2, a3, a4, a5, a6⟩ (ls, true) ⟨x1, x2, x3, x4, x5, x6⟩ = (ls ++ [⟨x1, x2, x3, x4, x5, x6⟩], true) by unfold pstep; simp [hq])
            have e2 : (x1 != a1) = true := by simpa using hq
            clear hq hne
            go_wp2
            go_quiet (fail)
            generalize nq = q0 at *
            have HR1 := Lib.hid (grows6_stay HR.out (blw_drewN (Below.refl _ _) q0))
            go_wp2
            go_quiet (fail)
            have HR2 := Lib.hid (grows6_stay HR.out (blw_drewN (Below.refl _ _) (q0 + nq)))
            go_wp2_with (at_builtin; refine wpList_append_row (C := chC) rfl (.tmp 38) (.tmp 43) 23 rfl W.heap.size 49 i0 (cv noChg) 56 Try.underlying23 hi hz0 hz1 hz2 rfl _ _ _ rfl (owns_below HR2.out.1 ((Below.refl _ _).alloc (Nat.le_refl _) _)) _ [⟨x1, x2, x3, x4, x5, x6⟩] rfl (crow_new0 _ ⟨x1, x2, x3, x4, x5, x6⟩ 49) (by unfold maxLen; simp; omega) (by simp; omega) (by simp; omega) ?_; intro v4 w4 hown4 hgrow4)
            have HC4 := Lib.hid (grows6_more HR2.out ((Below.refl _ _).alloc (Nat.le_refl _) _) hown4 hgrow4)
            go_roundw
            case rel => exact ⟨k + 1, true, by omega, by go_num, rfl, HN.out _ _ _ _ HS2.out HC4.out⟩
            case measure => simp [intOf]; omega
      · obtain rfl : k = l.length := by omega
        rw [HEND.out] at hR hbb
        have hd := HDONE.out
        have hln := HLEN.out l.length (Nat.le_refl _)
        rw [HEND.out] at hln
        have hBX := HBOX.out.below hR.2 hWs
        have hsz := hR.2.size
        generalize pfold ⟨a1, a2, a3, a4, a5, a6⟩ l = st at *
        obtain ⟨ls, bb⟩ := st
        simp only at hbb hR hd hln
        subst hbb
        have HR := Lib.hid hR
        clear hR
        obtain ⟨d0, d1, d2, d3, d4, d5⟩ := hBX
        simp only at d0 d1 d2 d3 d4 d5
        cases b
        · have hll := hln.2 rfl
          clear hln
          rw [if_neg Bool.false_ne_true] at hd
          have HD := Lib.hid hd
          clear hd
          go_wp2_with (at_builtin; refine wpList_append_row (C := chC) rfl (.tmp 47) (.tmp 49) 23 rfl W.heap.size 49 i0 (cv noChg) 56 Try.underlying23 hi hz0 hz1 hz2 rfl _ _ _ rfl (owns_below HR.out.1 ((Below.refl _ _).alloc (Nat.le_refl _) _)) _ [⟨a1, a2, a3, a4, a5, a6⟩] rfl (crow_new0 _ ⟨a1, a2, a3, a4, a5, a6⟩ 49) (by unfold maxLen; simp; omega) (by simp; omega) (by simp; omega) ?_; intro v3 w3 hown3 hgrow3)
          have HC := Lib.hid (grows6_more HR.out ((Below.refl _ _).alloc (Nat.le_refl _) _) hown3 hgrow3)
          go_wp2
          go_ret
          exact ⟨_, rfl, HFIN.out _ _ _ HB.out (by rw [HD.out]; exact HC.out)⟩
        · rw [if_pos rfl] at hd
          have HD := Lib.hid hd
          clear hd hln
          go_wp2
          go_ret
          exact ⟨_, rfl, HFIN.out _ _ _ HB.out (by rw [HD.out]; exact HR.out)⟩
  · obtain rfl : l = [] := List.eq_nil_of_length_eq_zero (by omega)
    clear h0 hl2 HLEN HEND HNEXT
    obtain ⟨d0, d1, d2, d3, d4, d5⟩ := HBOX.out
    simp only at d0 d1 d2 d3 d4 d5
    have HI := Lib.hid (grows6_nil W W (Below.refl _ _))
    refine wp_loop_rounds 1 ?_
    rw [rounds_succ]
    go_wp2_with (at_builtin; refine wpList_append_row (C := chC) rfl (.tmp 47) (.tmp 49) 23 rfl W.heap.size 49 i0 (cv noChg) 56 Try.underlying23 hi hz0 hz1 hz2 rfl _ _ _ rfl (owns_below HI.out.1 ((Below.refl _ _).alloc (Nat.le_refl _) _)) _ [⟨a1, a2, a3, a4, a5, a6⟩] rfl (crow_new0 _ ⟨a1, a2, a3, a4, a5, a6⟩ 49) (by unfold maxLen; simp) (by simp) (by simp) ?_; intro v3 w3 hown3 hgrow3)
    have HC := Lib.hid (grows6_more HI.out ((Below.refl _ _).alloc (Nat.le_refl _) _) hown3 hgrow3)
    go_wp2
    go_ret
    exact ⟨_, rfl, HFIN.out _ _ _ HB.out (by rw [HDONE.out]; exact HC.out)⟩
end Go.Proofs.Ythcakinllcffoaa
