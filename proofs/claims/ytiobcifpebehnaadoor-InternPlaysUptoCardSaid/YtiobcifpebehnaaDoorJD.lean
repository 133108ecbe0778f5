
import Derived.Test.YtiobcifpebehnaaDoorJC
import Derived.Test.YtiobcifpebehnaaDoorJA
import Derived.Sort.QuietIn
import Derived.Test.YtiobcifpebehnaaDoorRows
import Derived.RangeFuncCalls
/- J10 -/
/- J10: All, of a table that is full -/
namespace Go.Proofs.YtiobcifpebehnaaDoor
open Go.RowKit Go.Shelf
set_option linter.unusedVariables false
attribute [local go_sem] Oper.semAt_some

/-- The live ids below k, rising; all of them. -/
def uptoT (T : TabS) (k : Nat) : List Nat := (List.range k).filter fun i => T.has (i : Nat)
def idsT (T : TabS) : List Nat := uptoT T T.es.length
theorem uptoT_yes {T : TabS} {k : Nat} (h : T.has (k : Nat) = true) : uptoT T (k + 1) = uptoT T k ++ [k] := by
  unfold uptoT
  rw [List.range_succ, List.filter_append]
  simp [h]
theorem uptoT_no {T : TabS} {k : Nat} (h : T.has (k : Nat) = false) : uptoT T (k + 1) = uptoT T k := by
  unfold uptoT
  rw [List.range_succ, List.filter_append]
  simp [h]
theorem uptoT_pre {T : TabS} {k m : Nat} (h : k ≤ m) : uptoT T k <+: uptoT T m := by
  obtain ⟨d, rfl⟩ : ∃ d, m = k + d := ⟨m - k, by omega⟩
  clear h
  induction d with
  | zero => exact List.prefix_refl _
  | succ d ih =>
    refine ih.trans ?_
    rw [show k + (d + 1) = (k + d) + 1 by omega]
    cases hh : T.has ((k + d : Nat) : Int) with
    | true => rw [uptoT_yes hh]; exact List.prefix_append _ _
    | false => rw [uptoT_no hh]; exact List.prefix_refl _
/-- What a round keeps: all below B0, and the box. -/
structure KpT (B0 bx : Nat) (W W' : World) : Prop where
  bel : Below B0 W W'
  box : W'.heap[bx]? = W.heap[bx]?
theorem KpT.refl (B0 bx : Nat) (W : World) : KpT B0 bx W W := ⟨Below.refl _ _, rfl⟩
theorem KpT.trans {B0 bx : Nat} {A B C : World} (h : KpT B0 bx A B) (k : KpT B0 bx B C) : KpT B0 bx A C := ⟨h.bel.trans k.bel, k.box.trans h.box⟩
theorem Tb.from {B : Nat} {S : Nat → Prop} {tb : Nat} {T : TabS} {n B0 : Nat} {w w' : World} (h : Tb B S tb T n w) (hS : ∀ k, S k → k < B0) (hB : B ≤ B0) (hb : Below B0 w w') : Tb B S tb T n w' :=
  h.kept hb.size (fun k hk hh => hb.block k (by rcases hh with e | e; omega; exact hS k e))

set_option maxRecDepth 100000 in
set_option maxHeartbeats 2000000 in
theorem all1_full {B : Nat} {S : Nat → Prop} {tb : Nat} {T : TabS} {nT B0 bx : Nat} (n l : Nat) (hn : 3 ≤ n) (J Jx : List Nat → World → Prop)
    (hY : ∀ (pre : List Nat) (x : Nat) (W1 : World), J pre W1 → pre.length < (idsT T).length → YieldAt Fence.wide (n - 1) Tryd.prog l #[.int .i64 (x : Nat)] W1 fun e W' =>
      (e = .returned (.bool true) ∧ J (pre ++ [x]) W' ∧ KpT B0 bx W1 W') ∨ (e = .returned (.bool false) ∧ Jx (pre ++ [x]) W'))
    (W : World) (hbx : W.heap[bx]? = some (.cells #[.pointer (some ⟨tb, 0, none⟩)] 30 (0, 0))) (ht : Tb B S tb T nT W) (hSB : ∀ k, S k → k < B0) (hBB : B ≤ B0) (hnT : nT ≤ 1000000) (h0 : J [] W) :
    CallsIn Fence.wide n Tryd.prog 38 #[.func (.yield l) #[] #[], .pointer (some ⟨bx, 0, none⟩)] W fun e W' => (∃ v, e = .returned v) ∧ ((∃ ys, ys = idsT T ∧ J ys W') ∨ (∃ pre, pre <+: idsT T ∧ Jx pre W')) := by
  have HTB := Lib.hid (fun (wr : World) (hk : KpT B0 bx W wr) => (show Tb B S tb T nT wr ∧ wr.cell? ⟨bx, 0, none⟩ = some (.pointer (some ⟨tb, 0, none⟩)) from
    ⟨ht.from hSB hBB hk.bel, by rw [cell_of_row wr bx 0 _ _ _ (hk.box.trans hbx)]; rfl⟩))
  have HY := Lib.hid hY
  have hes := ht.leT.es
  clear hY ht hbx
  refine callsIn_of_wp Tryd.func38 rfl trivial ?_ rfl
  simp only [Tryd.ntmps38, List.size_toArray, List.length_cons, List.length_nil, Nat.reduceAdd, Nat.reduceSub, Array.replicate_succ, Array.replicate_zero, List.push_toArray, List.append_toArray, List.nil_append, List.cons_append]
  gi_wp2
  gi_loopw [3] (fun s3 wr => ∃ k : Nat, k ≤ T.es.length ∧ s3 = .int .i64 k ∧ KpT B0 bx W wr ∧ J (uptoT T k) wr) (fun s3 _ => T.es.length - (intOf s3).toNat)
  case atStart => exact ⟨0, Nat.zero_le _, rfl, KpT.refl _ _ _, h0⟩
  case round =>
    obtain ⟨k, hk, rfl, hkp, hJ⟩ := hrel
    obtain ⟨hT, cb⟩ := HTB.out wr hkp
    obtain ⟨st, mb, m, sv, fv, hs, D, hT⟩ := hT
    obtain ⟨c0, -, -, c2, -⟩ := hT.cells
    obtain ⟨g, cap, rfl, hg, hcap⟩ := hT.form
    have HZ := Lib.hid (iszero_any wr hT)
    have HH := Lib.hid (has_any (k : Int) wr hT hnT)
    have HK := Lib.hid hkp
    by_cases hlt : k < T.es.length
    · have g1 : decide ((k : Int) < (T.es.length : Int)) = true := by rw [decide_eq_true_iff]; omega
      cases hh : T.has (k : Nat) with
      | true =>
        have hpre : (uptoT T k).length < (idsT T).length := by
          have h1 := (uptoT_pre (T := T) (show k + 1 ≤ T.es.length by omega)).length_le
          rw [uptoT_yes hh, List.length_append] at h1
          exact h1
        obtain ⟨fn, tmps, assign, body, hy, hR⟩ := HY.out (uptoT T k) k wr hJ hpre
        rw [hh] at HH
        have HU := Lib.hid (uptoT_yes hh)
        clear hT hkp hpre hh
        gi_wp2_with (first
          | (refine ⟨trivial, fun h => (by cases h), ?_⟩; gi_at_call 30; refine (callsIn_wide.2 HZ.out).mono ?_; rintro e w1 ⟨rfl, hw⟩; have hw := hw.symm; subst hw)
          | (refine ⟨trivial, fun h => (by cases h), ?_⟩; gi_at_call 39; refine (callsIn_wide.2 HH.out).mono ?_; rintro e w1 ⟨rfl, hw⟩; have hw := hw.symm; subst hw))
        refine ⟨fun h => (by cases h), hR.mono ?_⟩
        rintro e W' (⟨rfl, hJ', hk'⟩ | ⟨rfl, hJx'⟩)
        · gi_wp2
          go_roundw
          case rel => exact ⟨k + 1, by omega, by go_num, HK.out.trans hk', by rw [HU.out]; exact hJ'⟩
          case measure => simp [intOf]; omega
        · gi_wp2
          refine bodyPost_ret (results_none rfl _ _ _) rfl ?_
          exact ⟨⟨_, rfl⟩, .inr ⟨uptoT T k ++ [k], by rw [← HU.out]; exact uptoT_pre (by omega), hJx'⟩⟩
      | false =>
        rw [hh] at HH
        have HU := Lib.hid (uptoT_no hh)
        have HJ := Lib.hid hJ
        clear hT hkp hh hJ
        gi_wp2_with (first
          | (refine ⟨trivial, fun h => (by cases h), ?_⟩; gi_at_call 30; refine (callsIn_wide.2 HZ.out).mono ?_; rintro e w1 ⟨rfl, hw⟩; have hw := hw.symm; subst hw)
          | (refine ⟨trivial, fun h => (by cases h), ?_⟩; gi_at_call 39; refine (callsIn_wide.2 HH.out).mono ?_; rintro e w1 ⟨rfl, hw⟩; have hw := hw.symm; subst hw))
        refine ⟨fun _ h => (by cases h), ?_⟩
        gi_wp2
        go_roundw
        case rel => exact ⟨k + 1, by omega, by go_num, HK.out, by rw [HU.out]; exact HJ.out⟩
        case measure => simp [intOf]; omega
    · obtain rfl : k = T.es.length := by omega
      have g1 : decide ((T.es.length : Int) < (T.es.length : Int)) = false := by rw [decide_eq_false_iff_not]; omega
      have HJ := Lib.hid hJ
      clear hT hkp hlt hJ
      gi_wp2_with (refine ⟨trivial, fun h => (by cases h), ?_⟩; gi_at_call 30; refine (callsIn_wide.2 HZ.out).mono ?_; rintro e w1 ⟨rfl, hw⟩; have hw := hw.symm; subst hw)
      go_end0
      exact ⟨⟨_, rfl⟩, .inl ⟨_, rfl, HJ.out⟩⟩
end Go.Proofs.YtiobcifpebehnaaDoor

/- J11 -/
/- J11: what looked looks at -/
namespace Go.Proofs.YtiobcifpebehnaaDoor
open Go.RowKit Go.Shelf
set_option linter.unusedVariables false
attribute [local go_sem] Oper.semAt_some

/-- looked's own blocks, from b on: the two boxes, the result, how far it has come. -/
structure LookR (w W : World) (tb rb : Nat) (nv : Nat) : Prop where
  bel : Below w.heap.size w W
  hi : w.heap.size + 4 ≤ W.heap.size
  bt : W.heap[w.heap.size]? = some (.cells #[.pointer (some ⟨tb, 0, none⟩)] 30 (0, 0))
  br : W.heap[w.heap.size + 1]? = some (.cells #[.pointer (some ⟨rb, 0, none⟩)] 32 (0, 0))
  bo : W.heap[w.heap.size + 1 + 1]? = some (.cells #[.bool false] 4 (0, 0))
  bn : W.heap[w.heap.size + 1 + 1 + 1]? = some (.cells #[.int .i64 (nv : Nat)] 3 (0, 0))
section
variable {w W W' : World} {tb rb nv : Nat}
theorem LookR.below (h : LookR w W tb rb nv) (hb : Below W.heap.size W W') : LookR w W' tb rb nv := by
  have hh := h.hi
  exact ⟨below_add h.bel hb h.bel.size, Nat.le_trans h.hi hb.size, (hb.block _ (by omega)).trans h.bt, (hb.block _ (by omega)).trans h.br, (hb.block _ (by omega)).trans h.bo, (hb.block _ (by omega)).trans h.bn⟩
theorem LookR.cells (h : LookR w W tb rb nv) : W.cell? ⟨w.heap.size, 0, none⟩ = some (.pointer (some ⟨tb, 0, none⟩)) ∧ W.cell? ⟨w.heap.size + 1, 0, none⟩ = some (.pointer (some ⟨rb, 0, none⟩)) ∧ W.cell? ⟨w.heap.size + 1 + 1, 0, none⟩ = some (.bool false) ∧ W.frozen? ⟨w.heap.size + 1 + 1, 0, none⟩ = false ∧ W.cell? ⟨w.heap.size + 1 + 1 + 1, 0, none⟩ = some (.int .i64 (nv : Nat)) ∧ W.frozen? ⟨w.heap.size + 1 + 1 + 1, 0, none⟩ = false := by
  refine ⟨?_, ?_, ?_, ?_, ?_, ?_⟩
  · rw [cell_of_row W _ 0 _ _ _ h.bt]; rfl
  · rw [cell_of_row W _ 0 _ _ _ h.br]; rfl
  · rw [cell_of_row W _ 0 _ _ _ h.bo]; rfl
  · simp [World.frozen?, h.bo]
  · rw [cell_of_row W _ 0 _ _ _ h.bn]; rfl
  · simp [World.frozen?, h.bn]
/-- How far it has come turns. -/
theorem LookR.put (h : LookR w W tb rb nv) (q : Nat) : LookR w (W.setCell ⟨w.heap.size + 1 + 1 + 1, 0, none⟩ (.int .i64 (q : Nat))) tb rb q := by
  have hG := grown_set (w := W) (g := w.heap.size + 1 + 1 + 1) (o := 0) (.int .i64 (q : Nat))
  have hk : ∀ k, k ≠ w.heap.size + 1 + 1 + 1 → k < W.heap.size → (W.setCell ⟨w.heap.size + 1 + 1 + 1, 0, none⟩ (.int .i64 (q : Nat))).heap[k]? = W.heap[k]? := fun k hne hlt => hG.block k hlt (fun e => hne (by injection e))
  have hh := h.hi
  exact ⟨h.bel.setCell (p := ⟨w.heap.size + 1 + 1 + 1, 0, none⟩) (by show w.heap.size ≤ w.heap.size + 1 + 1 + 1; omega) _, Nat.le_trans hh hG.size, (hk _ (by omega) (by omega)).trans h.bt, (hk _ (by omega) (by omega)).trans h.br, (hk _ (by omega) (by omega)).trans h.bo, by rw [heap_set _ h.bn]; rfl⟩
theorem KeepsOthers.of_below {A B : World} (h : Below A.heap.size A B) : KeepsOthers A B :=
  ⟨h.size, fun k o hk _ => (h.block k (lt_of_heap hk)).trans hk⟩
end
/-- The next id that is told when so many were. -/
def nextT (T : TabS) (pre : List Nat) : Nat := match pre.getLast? with
  | some x => x + 1
  | none => 0
theorem nextT_snoc (T : TabS) (pre : List Nat) (x : Nat) : nextT T (pre ++ [x]) = x + 1 := by unfold nextT; simp
theorem RefR.lens {B : Nat} {U : Nat → Prop} {rb : Nat} {kv : Value} {T : TabS} {w : World} (h : RefR B U rb kv T w) : ∃ sa sc la lc k m, w.cell? ⟨rb, 1, none⟩ = some (.slice sa k sc) ∧ w.cell? ⟨rb, 3, none⟩ = some (.slice la m lc) ∧ T.es.length = k + 1 ∧ T.free.length = m := by
  obtain ⟨sv, hv, lv, V, H, L, E, h, hT⟩ := h
  obtain ⟨⟨sa, sc, rfl⟩, -, ⟨la, lc, rfl⟩⟩ := h.shapes
  obtain ⟨-, c1, -, c3, -⟩ := h.cells
  exact ⟨sa, sc, la, lc, V.length, L.length, c1, c3, by rw [hT.hl, hT.vl], by rw [hT.fr, List.length_map]⟩
theorem Tb.lens {B : Nat} {S : Nat → Prop} {tb : Nat} {T : TabS} {n : Nat} {w : World} (h : Tb B S tb T n w) : T.len + T.free.length = T.es.length := by
  obtain ⟨st, mb, m, sv, fv, hs, D, t⟩ := h
  have := t.ids.size
  unfold TabS.len
  omega
@[reducible] def K1 (b rb k m : Nat) (t r : Value) (sa la : Option Addr) (sc lc : Nat) (w : World) : Prop := w.cell? ⟨b, 0, none⟩ = some t ∧ w.cell? ⟨b + 1, 0, none⟩ = some r ∧ w.cell? ⟨rb, 1, none⟩ = some (.slice sa k sc) ∧ w.cell? ⟨rb, 3, none⟩ = some (.slice la m lc)

/-- What Set answers of an id that is there: a slice of its own. -/
theorem set_own {B : Nat} {S : Nat → Prop} {tb : Nat} {T : TabS} {n : Nat} {i : Nat} (hh : T.has (i : Nat) = true) (w : World) (h : Tb B S tb T n w) (hn : n ≤ 1000000) :
    Calls Tryd.prog 21 #[.pointer (some ⟨tb, 0, none⟩), .int .i64 (i : Nat)] w fun e w' => ∃ a c, e = .returned (.tuple #[.slice a (T.set i).length c, .int .i64 0]) ∧ w'.ownsRow w.heap.size 47 5 (.slice a (T.set i).length c) (T.set i).length (fl attC (T.set i)) ∧ Below w.heap.size w w' := by
  refine (setB (i : Nat) w h hn).mono fun e w' hP => ?_
  obtain ⟨hb, ⟨-, u, he, ho⟩ | ⟨hf, -⟩⟩ := hP
  · rw [Int.toNat_natCast] at ho
    obtain ⟨a, c, rfl⟩ := (Row.of_owns (C := attC) ho).1.shape
    exact ⟨a, c, he, ho, hb⟩
  · rw [hh] at hf; cases hf
/-! ### what comes next -/
theorem ids_lt (T : TabS) : (idsT T).Pairwise (· < ·) := (List.pairwise_lt_range (n := T.es.length)).filter _
theorem ids_mem {T : TabS} {j : Nat} : j ∈ idsT T ↔ j < T.es.length ∧ T.has (j : Nat) = true := by
  unfold idsT uptoT
  simp
/-- Between what was told last and what comes next there is none. -/
theorem ids_next {T : TabS} {pre : List Nat} (hpre : pre = (idsT T).take pre.length) (hlt : pre.length < (idsT T).length) :
    ∃ m, (idsT T)[pre.length]? = some m ∧ nextT T pre ≤ m ∧ m < T.es.length ∧ T.has (m : Nat) = true ∧ ∀ j, nextT T pre ≤ j → j < m → T.has (j : Nat) = false := by
  have hp := List.pairwise_iff_getElem.1 (ids_lt T)
  obtain ⟨h1, h2⟩ := ids_mem.1 (List.getElem_mem hlt)
  have hnx : ∀ q (hq : q < pre.length), (idsT T)[q]'(by omega) < nextT T pre := by
    intro q hq
    have hl : pre.getLast? = some ((idsT T)[pre.length - 1]'(by omega)) := by
      rw [List.getLast?_eq_getElem?]
      conv => lhs; rw [hpre]
      rw [List.getElem?_take]
      have e : (List.take pre.length (idsT T)).length = pre.length := by rw [← hpre]
      rw [e, if_pos (by omega), List.getElem?_eq_getElem (by omega)]
    unfold nextT
    rw [hl]
    show _ < _ + 1
    rcases Nat.lt_or_ge q (pre.length - 1) with h | h
    · have := hp q (pre.length - 1) (by omega) (by omega) h; omega
    · have : q = pre.length - 1 := by omega
      subst this; omega
  refine ⟨_, List.getElem?_eq_getElem hlt, ?_, h1, h2, fun j hj hjm => ?_⟩
  · unfold nextT
    cases hg : pre.getLast? with
    | none => exact Nat.zero_le _
    | some x =>
      show x + 1 ≤ _
      have h0 : 0 < pre.length := by
        cases pre with
        | nil => simp at hg
        | cons a r => simp
      have hx : x = (idsT T)[pre.length - 1]'(by omega) := by
        rw [List.getLast?_eq_getElem?] at hg
        have e2 : pre[pre.length - 1]? = (idsT T)[pre.length - 1]? := by
          conv => lhs; rw [hpre]
          rw [List.getElem?_take]
          have e : (List.take pre.length (idsT T)).length = pre.length := by rw [← hpre]
          rw [e, if_pos (by omega)]
        rw [e2, List.getElem?_eq_getElem (by omega)] at hg
        exact (Option.some.inj hg).symm
      rw [hx]
      exact hp (pre.length - 1) pre.length (by omega) hlt (by omega)
  · cases hh : T.has (j : Nat) with
    | false => rfl
    | true =>
      exfalso
      obtain ⟨q, hq, e⟩ := List.getElem_of_mem (ids_mem.2 ⟨Nat.lt_trans hjm h1, hh⟩)
      rcases Nat.lt_trichotomy q pre.length with h | h | h
      · have := hnx q h; omega
      · subst h; omega
      · have := hp pre.length q hlt hq h; omega
/-- Behind the last one there is none. -/
theorem ids_last {T : TabS} {j : Nat} (h1 : nextT T (idsT T) ≤ j) : j < T.es.length → T.has (j : Nat) = false := fun hj => by
  cases hh : T.has (j : Nat) with
  | false => rfl
  | true =>
    exfalso
    have hp := List.pairwise_iff_getElem.1 (ids_lt T)
    obtain ⟨q, hq, e⟩ := List.getElem_of_mem (ids_mem.2 ⟨hj, hh⟩)
    have hl : (idsT T).getLast? = some ((idsT T)[(idsT T).length - 1]'(by omega)) := by
      rw [List.getLast?_eq_getElem?, List.getElem?_eq_getElem (by omega)]
    unfold nextT at h1
    rw [hl] at h1
    have h1 : (idsT T)[(idsT T).length - 1]'(by omega) + 1 ≤ j := h1
    rcases Nat.lt_or_ge q ((idsT T).length - 1) with h | h
    · have := hp q _ hq (by omega) h; omega
    · have : q = (idsT T).length - 1 := by omega
      subst this; omega
theorem take_next {T : TabS} {pre : List Nat} {m : Nat} (hpre : pre = (idsT T).take pre.length) (hm : (idsT T)[pre.length]? = some m) : pre ++ [m] = (idsT T).take (pre ++ [m]).length := by
  rw [List.length_append, List.length_singleton, List.take_add_one, hm, ← hpre]
  rfl
theorem not_pre {T : TabS} {pre : List Nat} {m x : Nat} (hm : (idsT T)[pre.length]? = some m) (hx : x ≠ m) : ¬ (pre ++ [x]) <+: idsT T := fun ⟨r, h⟩ => by
  rw [← h] at hm
  rw [List.append_assoc, List.getElem?_append_right (Nat.le_refl _)] at hm
  simp at hm
  exact hx hm

/-! ### the loop's two promises -/
theorem LookR.own {w W W' : World} {tb rb nv B : Nat} {row : Option Nat} (h : LookR w W tb rb nv) (hB : w.heap.size + 4 ≤ B) (hg : W.grownBy W' row) (hr : ∀ r, row = some r → B ≤ r) : LookR w W' tb rb nv := by
  have hh := h.hi
  have hk : ∀ k, k < w.heap.size + 4 → W'.heap[k]? = W.heap[k]? := fun k hlt => hg.block k (by omega) (fun e => by have := hr k e.symm; omega)
  exact ⟨h.bel.grown hg h.bel.size (fun k e => by have := hr k e; omega), Nat.le_trans hh hg.size, (hk _ (by omega)).trans h.bt, (hk _ (by omega)).trans h.br, (hk _ (by omega)).trans h.bo, (hk _ (by omega)).trans h.bn⟩
theorem kpT_b {B0 bx : Nat} {w3 : World} (h0 : B0 ≤ w3.heap.size) (hx : bx < w3.heap.size) : ∀ (W : World) (l : Nat) (o o' : Obj), w3.heap.size ≤ l → W.heap[l]? = some o → o.isCells = false → o.isWalk = false → KpT B0 bx W (W.putObj l o') := fun W l o o' hl ho h1 h2 =>
  ⟨belowK_b (w := w3) h0 W l o o' hl ho h1 h2, by
    have hG := grownBy_putObj' W l o'
    exact hG.block bx (by have := lt_of_heap ho; omega) (fun e => by injection e; omega)⟩

/-! ### a list of attributes of the law's own, whose keys are written over -/
structure KeyRow (ub l : Nat) (W : World) : Prop where
  obj : ∃ cur, W.heap[ub]? = some (.cells cur 47 (0, 0)) ∧ ∀ i, i < l → ∃ n : Int, cur[i * 5]? = some (.int .i64 n)
theorem KeyRow.below {ub l : Nat} {W W' : World} (h : KeyRow ub l W) (hb : Below W.heap.size W W') : KeyRow ub l W' := by
  obtain ⟨cur, h1, h2⟩ := h.obj
  exact ⟨cur, (hb.block _ (lt_of_heap h1)).trans h1, h2⟩
theorem KeyRow.at {ub l : Nat} {W : World} (h : KeyRow ub l W) {i : Nat} (hi : i < l) : (∃ n : Int, W.cell? ⟨ub, i * 5, none⟩ = some (.int .i64 n)) ∧ W.frozen? ⟨ub, i * 5, none⟩ = false := by
  obtain ⟨cur, h1, h2⟩ := h.obj
  obtain ⟨n, hn⟩ := h2 i hi
  exact ⟨⟨n, by rw [cell_of_row W ub (i * 5) _ _ _ h1]; exact hn⟩, by simp [World.frozen?, h1]⟩
theorem KeyRow.set {ub l : Nat} {W : World} (h : KeyRow ub l W) (i : Nat) (n : Int) : KeyRow ub l (W.setCell ⟨ub, i * 5, none⟩ (.int .i64 n)) := by
  obtain ⟨cur, h1, h2⟩ := h.obj
  refine ⟨_, heap_set _ h1, fun j hj => ?_⟩
  obtain ⟨m, hm⟩ := h2 j hj
  rw [Array.getElem?_setIfInBounds]
  split
  · split
    · exact ⟨n, rfl⟩
    · rename_i e1 e2
      exfalso
      rw [e1] at e2
      exact e2 (Array.getElem?_eq_some_iff.1 hm).1
  · exact ⟨m, hm⟩
/-- A slice that a call made. -/
theorem KeyRow.of_own {W : World} {base : Nat} {v : Value} {X : List Att} (h : W.ownsRow base 47 5 v X.length (fl attC X)) (h0 : 0 < X.length) : ∃ ub cap, v = .slice (some ⟨ub, 0, none⟩) X.length cap ∧ base ≤ ub ∧ X.length ≤ cap ∧ KeyRow ub X.length W := by
  obtain ⟨g, cap, rfl, -, hg⟩ := h.form h0
  obtain ⟨cur, hc⟩ := own_tag h (g := g) rfl
  have hcap : X.length ≤ cap := by
    rcases h.2 with ⟨hn, _⟩ | ⟨g', cap', cur', hv, _, _, hc', _⟩
    · cases hn
    · injection hv with _ _ e; subst e; exact hc'
  refine ⟨g, cap, rfl, own_base h rfl, hcap, cur, hc, fun i hi => ?_⟩
  have := h.cells (g := g) rfl (i * 5) (.int .i64 X[i].key) (by
    have := fl_get attC X i 0 hi attC.pos
    rw [Nat.add_zero] at this
    exact this)
  rw [Go.WideShapes.add_plain, Nat.zero_add, cell_of_row W g (i * 5) _ _ _ hc] at this
  exact ⟨_, this⟩
end Go.Proofs.YtiobcifpebehnaaDoor

/- JR -/
/- JR: a region that draws its order, within a round of a range over a function: walked as outside of a round -/
namespace Go.Proofs.YtiobcifpebehnaaDoor
open Go

section
variable {F : Fence} {n : Nat} {P : Program} {ops : Array Oper} {md : Region.Mode}
theorem wpOpIn_plain (hs : ∀ (i : Nat) (o : Oper), ops[i]? = some o → ∀ c, o.op ≠ .defer c) {Q : Exit → Act → World → Prop} {i : Nat} {K K' : Act → World → Prop} {a : Act} {w : World}
    (hK : ∀ a w, K a w → K' a w) (h : wpOpIn F.plain n P ops Q i K a w) : wpOpIn F n P ops Q i K' a w := by
  unfold wpOpIn at *
  cases ho : ops[i]? with
  | none => simp only [ho] at h ⊢; exact hK _ _ h
  | some o =>
    simp only [ho] at h ⊢
    split
    · rename_i hw
      rw [if_pos hw] at h
      have h := Oper.wpIn_mono hK h
      unfold Oper.wpIn at *
      rw [Oper.semAt_eq _ _ _ (hs i o ho)] at h ⊢
      exact h
    · rename_i hw
      rw [if_neg hw] at h
      exact ⟨h.1, hK _ _ h.2⟩
theorem wpAnyIn_plain (hs : ∀ (i : Nat) (o : Oper), ops[i]? = some o → ∀ c, o.op ≠ .defer c) {Q : Exit → Act → World → Prop} : ∀ (fuel : Nat) (listed : Array Bool) (a : Act) (w : World),
    wpAnyIn F.plain n P md ops Q fuel listed a w → wpAnyIn F n P md ops Q fuel listed a w
  | 0, _, _, _, h => h
  | fuel + 1, _, _, _, h => ⟨h.1, fun i hi => wpOpIn_plain hs (fun a' w' h' => wpAnyIn_plain hs fuel _ a' w' h') (h.2 i hi)⟩
end
def noDefer (l : List Oper) : Bool := l.all fun o => match o.op with
  | .defer _ => false
  | _ => true
theorem noDefer_spec {l : List Oper} (h : noDefer l = true) : ∀ (i : Nat) (o : Oper), l.toArray[i]? = some o → ∀ c, o.op ≠ .defer c := by
  intro i o ho c hc
  have hm : o ∈ l := by
    have := List.mem_of_getElem? (l := l) (i := i) (by simpa using ho)
    exact this
  have := List.all_eq_true.1 h o hm
  rw [hc] at this
  cases this
/-- A region whose operations only read, within a round. -/
theorem wpIn_region_quiet_round {l n id : Nat} {P : Program} {Q : Exit → Act → World → Prop} {a : Act} {w : World} {ops : List Oper} (hm : P.follows .mixedOrders = true) (hB : Region.lexB .any ops.toArray = true) (hd : noDefer ops = true)
    (h : wpQuietIn Fence.wide n P ops.toArray (fun w' => ∃ n, w' = w.drewN n) (fun a' => ∀ w', (∃ n, w' = w.drewN n) → Q .normal a' w') ops a) : (Code.region id ops.toArray true).wpIn (Fence.wide.inRound l) n P Q a w := by
  simp only [Region.lexB, Bool.and_eq_true] at hB
  refine wpIn_region_any hm (wpAnyIn_plain (noDefer_spec hd) _ _ _ _ (wpAnyIn_of_quiet (F := Fence.wide) (C := fun w' => ∃ n, w' = w.drewN n) (Q := fun a' => ∀ w', (∃ n, w' = w.drewN n) → Q .normal a' w') rfl (fun _ w' hw' h => h w' hw') _ _ _ _ ⟨1, rfl⟩ ?_))
  have := wpAnyQIn_lex (F := Fence.wide) (n := n) (C := fun w' => ∃ n, w' = w.drewN n) (md := .any) hB.1 ops 0 (Array.replicate ops.length false) a (by simp) (by simpa using hB.2) h
  simpa using this
end Go.Proofs.YtiobcifpebehnaaDoor

/- J12 -/
/- J12: looked -/
namespace Go.Proofs.YtiobcifpebehnaaDoor
open Go.RowKit Go.Shelf
set_option linter.unusedVariables false
attribute [local go_sem] Oper.semAt_some

theorem nextT_le (T : TabS) : nextT T (idsT T) ≤ T.es.length := by
  unfold nextT
  cases h : (idsT T).getLast? with
  | none => exact Nat.zero_le _
  | some x =>
    obtain ⟨r, hr⟩ := List.getLast?_eq_some_iff.1 h
    exact (ids_mem.1 (by rw [hr]; simp)).1

theorem ids_ne {T : TabS} (h : T.Ok) : idsT T ≠ [] := fun e => by
  have h0 : 0 ∈ idsT T := ids_mem.2 ⟨live_lt (T := T) (i := 0) (.inl rfl) h.pos, live_has (.inl rfl)⟩
  rw [e] at h0
  cases h0
theorem set_yes {T : TabS} {id : Int} {w : World} {e : Ending} {w' : World} (hh : T.has id = true) (h : SetP T id w e w') : ∃ u, e = .returned (.tuple #[u, .int .i64 0]) ∧ Below w.heap.size w w' := by
  obtain ⟨hb, ⟨-, u, he, -⟩ | ⟨hf, -⟩⟩ := h
  · exact ⟨u, he, hb⟩
  · rw [hh] at hf; cases hf
theorem set_not {T : TabS} {id : Int} {w : World} {e : Ending} {w' : World} (hh : T.has id = false) (h : SetP T id w e w') : ∃ u, e = .returned (.tuple #[u, .int .i64 5]) ∧ Below w.heap.size w w' := by
  obtain ⟨hb, ⟨hf, -⟩ | ⟨-, he⟩⟩ := h
  · rw [hh] at hf; cases hf
  · exact ⟨_, he, hb⟩
set_option maxRecDepth 100000 in
/-- A range over All that is left at once. -/
theorem range_break {B : Nat} {S : Nat → Prop} {tb : Nat} {T : TabS} {nT bx B0 : Nat} {Q : Exit → Act → World → Prop} {a : Act} {W0 : World} {gt pt : Nat} (hg : a.eval (.tmp gt) = .func (.func 38) #[] #[.pointer (some ⟨bx, 0, none⟩)])
    (hbx : W0.heap[bx]? = some (.cells #[.pointer (some ⟨tb, 0, none⟩)] 30 (0, 0))) (ht : Tb B S tb T nT W0) (hSB : ∀ k, S k → k < B0) (hBB : B ≤ B0) (hB0 : B0 ≤ W0.heap.size) (hnT : nT ≤ 1000000) (hne : idsT T ≠ [])
    (h : ∀ (D : Nat) (W : World), W0.heap.size ≤ D → Below W0.heap.size W0 W → W.heap[D]? = some (.deferred (some [])) → Q (.exit 8) { a with defers := { target := .collected D, args := #[] } :: a.defers } W) :
    (Code.rangeFunc (.tmp gt) #[pt] Code.skip (Code.block 9 (Code.exit 8))).wpIn Fence.wide 9 Tryd.prog Q a W0 := by
  have hlt := lt_of_heap hbx
  refine wpIn_rangeFunc_ownF (α := Nat) (encs := fun x => #[Value.int .i64 (x : Nat)]) (Kp := KpT B0 bx) (S := fun ys => ys = idsT T) (Sp := fun pre => pre <+: idsT T) (N := (idsT T).length) (w0 := W0) rfl (by decide)
    (gf := 38) (lb := #[.pointer (some ⟨bx, 0, none⟩)]) hg trivial (enters_of Tryd.func38 (by kernel_rfl) rfl) ?seq (fun h k => h.trans k) (kpT_b hB0 hlt) (Below.refl _ _) (fun _ => rfl)
    (fun pre W => pre = [] ∧ Below W0.heap.size W0 W)
    (fun c _ W => c = .exit 8 ∧ Below W0.heap.size W0 W)
    (fun pre A B row hs hg hr => ⟨hs.1, hs.2.grown hg hs.2.size (fun k e => (hr k e).1)⟩)
    (fun c pre A B row hs hg hr => ⟨hs.1, hs.2.grown hg hs.2.size (fun k e => (hr k e).1)⟩)
    ⟨rfl, Below.refl _ _⟩
    (fun x => { tmps := ((#[pt] : Array Tmp).zip #[Value.int .i64 (x : Nat)]).foldl (fun t (p, v) => t.setIfInBounds p v) a.tmps, defers := [] }) ?assign ?body ?done ?stop
  case seq =>
    intro l J Jx W hW hJ hJx hY h0
    exact all1_full _ l (by decide) J Jx hY W ((hW.block _ hlt).trans hbx) (ht.below hW) hSB hBB hnT h0
  case assign =>
    intro l x W K hK
    exact wpIn_skip hK
  case body =>
    rintro l pre x W ⟨rfl, hb⟩ _
    gi_wp2
    exact ⟨KeepsOthers.refl _, rfl, hb⟩
  case done =>
    rintro D xs W hD rfl ⟨he, -⟩ _
    exact absurd he hne
  case stop =>
    rintro D c pre W hD _ ⟨rfl, hb⟩ hK
    exact wpIn_exit (h D W hD hb hK)

set_option maxRecDepth 100000 in
set_option maxHeartbeats 4000000 in
theorem looked_any {w0 : World} {B tb rb : Nat} {kv : Value} {S U : Nat → Prop} {T : TabS} {n : Nat} {w : World} (ask : Int) (h : PlayR w0 B tb rb kv S U T n w) (hn : n ≤ 1000000) :
    Calls Tryd.prog 20 #[.pointer (some ⟨tb, 0, none⟩), .pointer (some ⟨rb, 0, none⟩), .int .i64 ask] w fun e w' => e = .returned (.bool true) ∧ Below w.heap.size w w' := by
  have HA := Lib.hid (fun (w' : World) (hb : Below w.heap.size w w') => h.below hb)
  have hle := h.t.leT
  have hes := hle.es
  have hfl := hle.free
  have hok := h.t.ok
  have hlen : (T.len : Nat) = T.es.length - T.free.length := rfl
  refine (callsIn_wide (n := 9)).1 ?_
  refine callsIn_of_wp_marks Tryd.func20 rfl trivial ?_ rfl
  simp only [Tryd.ntmps20, List.size_toArray, List.length_cons, List.length_nil, Nat.reduceAdd, Nat.reduceSub, Array.replicate_succ, Array.replicate_zero, List.push_toArray, List.append_toArray, List.nil_append, List.cons_append]
  refine wpIn_wide.2 ?_
  have hB1 : Below w.heap.size w (((w.alloc (.cells #[.pointer (some ⟨tb, 0, none⟩)] 30)).alloc (.cells #[.pointer (some ⟨rb, 0, none⟩)] 32)).alloc (.cells #[.bool false] 4)) := (((Below.refl _ w).alloc (Nat.le_refl _) _).alloc (by simp) _).alloc (by simp; omega) _
  have f0 : (((w.alloc (.cells #[.pointer (some ⟨tb, 0, none⟩)] 30)).alloc (.cells #[.pointer (some ⟨rb, 0, none⟩)] 32)).alloc (.cells #[.bool false] 4)).heap[w.heap.size]? = some (.cells #[.pointer (some ⟨tb, 0, none⟩)] 30 (0, 0)) := by
    rw [Below.heap_alloc _ _ _ (by simp; omega), Below.heap_alloc _ _ _ (by simp)]; exact heap_alloc_new w _
  have f1 : (((w.alloc (.cells #[.pointer (some ⟨tb, 0, none⟩)] 30)).alloc (.cells #[.pointer (some ⟨rb, 0, none⟩)] 32)).alloc (.cells #[.bool false] 4)).heap[w.heap.size + 1]? = some (.cells #[.pointer (some ⟨rb, 0, none⟩)] 32 (0, 0)) := by
    rw [Below.heap_alloc _ _ _ (by simp)]
    have := heap_alloc_new (w.alloc (.cells #[.pointer (some ⟨tb, 0, none⟩)] 30)) (.cells #[.pointer (some ⟨rb, 0, none⟩)] 32)
    simpa using this
  have f2 : (((w.alloc (.cells #[.pointer (some ⟨tb, 0, none⟩)] 30)).alloc (.cells #[.pointer (some ⟨rb, 0, none⟩)] 32)).alloc (.cells #[.bool false] 4)).heap[w.heap.size + 1 + 1]? = some (.cells #[.bool false] 4 (0, 0)) := by
    have := heap_alloc_new ((w.alloc (.cells #[.pointer (some ⟨tb, 0, none⟩)] 30)).alloc (.cells #[.pointer (some ⟨rb, 0, none⟩)] 32)) (.cells #[.bool false] 4)
    simpa using this
  have hsz : (((w.alloc (.cells #[.pointer (some ⟨tb, 0, none⟩)] 30)).alloc (.cells #[.pointer (some ⟨rb, 0, none⟩)] 32)).alloc (.cells #[.bool false] 4)).heap.size = w.heap.size + 1 + 1 + 1 := by simp
  obtain ⟨sa, sc, la, lc, k, m, c1, c3, hk, hm⟩ := h.r.lens
  have hll := h.t.lens
  have HK1 := Lib.hid (fun (w' : World) (hb : Below w.heap.size w w') => (HA.out w' hb).r.lens)
  go_wp2_with fail
  generalize (((w.alloc (.cells #[.pointer (some ⟨tb, 0, none⟩)] 30)).alloc (.cells #[.pointer (some ⟨rb, 0, none⟩)] 32)).alloc (.cells #[.bool false] 4)) = W1 at *
  have R1 := Lib.hid (HA.out W1 hB1)
  have B1 := Lib.hid hB1
  have hq : (T.len : Int) = 1 + (k : Int) - (m : Int) := by omega
  have hkb : k ≤ 1000000 := by omega
  have hmb : m ≤ 1000001 := by omega
  have hw1 : IntKind.i64.wrap (1 + (k : Int)) = 1 + (k : Int) := by rw [IntKind.wrap_i64]; omega
  have hw2 : IntKind.i64.wrap (1 + (k : Int) - (m : Int)) = 1 + (k : Int) - (m : Int) := by rw [IntKind.wrap_i64]; omega
  have HK := Lib.hid (fun (W : World) (hb : Below w.heap.size w W) => (show W.cell? ⟨rb, 1, none⟩ = some (.slice sa k sc) ∧ W.cell? ⟨rb, 3, none⟩ = some (.slice la m lc) from ⟨(hb.cell (World.block_lt_of_cell? _ _ c1)).trans c1, (hb.cell (World.block_lt_of_cell? _ _ c3)).trans c3⟩))
  have hbd : Below W1.heap.size W1 W1.drew := (Below.refl _ _).drew
  have hS0 : K1 w.heap.size rb k m (.pointer (some ⟨tb, 0, none⟩)) (.pointer (some ⟨rb, 0, none⟩)) sa la sc lc W1.drew :=
    ⟨by rw [cell_of_row W1.drew _ 0 _ _ _ ((hbd.block _ (by omega)).trans f0)]; rfl, by rw [cell_of_row W1.drew _ 0 _ _ _ ((hbd.block _ (by omega)).trans f1)]; rfl, (HK.out _ hB1.drew).1, (HK.out _ hB1.drew).2⟩
  have HL := Lib.hid (lenB W1.drew (HA.out W1.drew hB1.drew).t)
  rw [hq] at HL
  have HF := Lib.hid (⟨f0, f1, f2, hsz, hbd⟩ : W1.heap[w.heap.size]? = some (.cells #[.pointer (some ⟨tb, 0, none⟩)] 30 (0, 0)) ∧ W1.heap[w.heap.size + 1]? = some (.cells #[.pointer (some ⟨rb, 0, none⟩)] 32 (0, 0)) ∧ W1.heap[w.heap.size + 1 + 1]? = some (.cells #[.bool false] 4 (0, 0)) ∧ W1.heap.size = w.heap.size + 1 + 1 + 1 ∧ Below W1.heap.size W1 W1.drew)
  have HQ := Lib.hid (⟨hle, hes, hfl, hok, hlen, hll, hk, hm⟩ : T.Le n ∧ T.es.length ≤ n + 1 ∧ T.free.length ≤ n ∧ T.Ok ∧ T.len = T.es.length - T.free.length ∧ T.len + T.free.length = T.es.length ∧ T.es.length = k + 1 ∧ T.free.length = m)
  have HH := Lib.hid h
  clear f0 f1 f2 hbd hB1 hq h hle hes hfl hok hlen hll hk hm HK1 c1 c3
  go_region_held3 (fun w' => K1 w.heap.size rb k m (.pointer (some ⟨tb, 0, none⟩)) (.pointer (some ⟨rb, 0, none⟩)) sa la sc lc w') (first | assumption | trivial)
    ((go_at_call 24; refine HL.out.mono ?_; rintro e wx ⟨rfl, hw⟩; have hw := hw.symm; subst hw))
  clear hS0 HL
  obtain ⟨f0, f1, f2, hsz, hbd⟩ := HF.out
  have hbn : Below W1.heap.size W1 (W1.alloc (.cells #[.int .i64 0] 3)).drew := ((Below.refl _ _).alloc (Nat.le_refl _) _).drew
  have hR2 : LookR w (W1.alloc (.cells #[.int .i64 0] 3)).drew tb rb 0 :=
    ⟨below_add B1.out hbn B1.out.size, by show _ ≤ (W1.alloc (.cells #[.int .i64 0] 3)).heap.size; simp; omega, (hbn.block _ (by omega)).trans f0, (hbn.block _ (by omega)).trans f1, (hbn.block _ (by omega)).trans f2, by
      have := heap_alloc_new W1 (.cells #[.int .i64 0] 3)
      rw [hsz] at this
      exact this⟩
  obtain ⟨d0, d1, d2, d3, d4, d5⟩ := hR2.cells
  have HAL := Lib.hid (all_any (some ⟨tb, 0, none⟩) (W1.alloc (.cells #[.int .i64 0] 3)).drew)
  have R2 := Lib.hid hR2
  clear f0 f1 f2 hbd hbn hR2
  go_wp2_with (go_at_call 22; refine HAL.out.mono ?_; rintro e wx ⟨rfl, hw⟩; subst hw)
  have W3R := Lib.hid (R2.out.below ((Below.refl _ _).alloc (Nat.le_refl _) (.cells #[.pointer (some ⟨tb, 0, none⟩)] 30)))
  have hbx : ((W1.alloc (.cells #[.int .i64 0] 3)).alloc (.cells #[.pointer (some ⟨tb, 0, none⟩)] 30)).drew.heap[w.heap.size + 1 + 1 + 1 + 1]? = some (.cells #[.pointer (some ⟨tb, 0, none⟩)] 30 (0, 0)) := by
    have := heap_alloc_new (W1.alloc (.cells #[.int .i64 0] 3)) (.cells #[.pointer (some ⟨tb, 0, none⟩)] 30)
    rw [World.size_alloc, HF.out.2.2.2.1] at this
    exact this
  have hR3 : LookR w ((W1.alloc (.cells #[.int .i64 0] 3)).alloc (.cells #[.pointer (some ⟨tb, 0, none⟩)] 30)).drew tb rb 0 := W3R.out
  generalize ((W1.alloc (.cells #[.int .i64 0] 3)).alloc (.cells #[.pointer (some ⟨tb, 0, none⟩)] 30)).drew = W3 at *
  have hx3 := lt_of_heap hbx
  have hS3 : ∀ j, S j ∧ j < w.heap.size → j < w.heap.size := fun j hj => hj.2
  have hBw := HH.out.t.hB
  clear HAL d0 d1 d2 d3 d4 d5 W3R R2 HF
  refine (wpIn_wide (n := 9)).1 ?_
  refine wpIn_rangeFunc_ownF (α := Nat) (encs := fun x => #[Value.int .i64 (x : Nat)]) (Kp := KpT w.heap.size (w.heap.size + 1 + 1 + 1 + 1)) (S := fun ys => ys = idsT T) (Sp := fun pre => pre <+: idsT T) (N := (idsT T).length) (w0 := W3) rfl (by decide)
    (gf := 38) (lb := #[.pointer (some ⟨w.heap.size + 1 + 1 + 1 + 1, 0, none⟩)]) rfl trivial (enters_of Tryd.func38 (by kernel_rfl) rfl) ?seq (fun h k => h.trans k) (kpT_b hR3.bel.size hx3) (Below.refl _ _) (fun _ => rfl)
    (fun pre W => pre = (idsT T).take pre.length ∧ LookR w W tb rb (nextT T pre) ∧ W.heap[w.heap.size + 1 + 1 + 1 + 1]? = some (.cells #[.pointer (some ⟨tb, 0, none⟩)] 30 (0, 0)))
    (fun _ pre _ => ¬ pre <+: idsT T)
    (fun pre A B row hs hg hr => ⟨hs.1, hs.2.1.own (by have := hR3.hi; omega) hg (fun r e => (hr r e).1), (hg.block _ (lt_of_heap hs.2.2) (fun e => by have := (hr _ e.symm).1; omega)).trans hs.2.2⟩)
    (fun _ _ _ _ _ hs _ _ => hs)
    ⟨rfl, hR3, hbx⟩
    (fun x => { tmps := #[.pointer (some ⟨tb, 0, none⟩), .pointer (some ⟨rb, 0, none⟩), .int .i64 ask, .pointer (some ⟨w.heap.size, 0, none⟩), .pointer (some ⟨w.heap.size + 1, 0, none⟩), undef, .pointer (some ⟨w.heap.size + 1 + 1, 0, none⟩), .pointer (some ⟨w.heap.size + 1 + 1 + 1, 0, none⟩), .int .i64 (x : Nat), undef, undef, undef, undef, undef, undef, undef, .pointer (some ⟨tb, 0, none⟩), .int .i64 (1 + (k : Int) - (m : Int)), .pointer (some ⟨rb, 0, none⟩), .pointer (some ⟨rb, 0, none⟩), .pointer (some ⟨rb, 1, none⟩), .slice sa k sc, .int .i64 (k : Nat), .int .i64 (1 + (k : Int)), .pointer (some ⟨rb, 0, none⟩), .pointer (some ⟨rb, 0, none⟩), .pointer (some ⟨rb, 3, none⟩), .slice la m lc, .int .i64 (m : Nat), .int .i64 (1 + (k : Int) - (m : Int)), .bool false, .pointer (some ⟨tb, 0, none⟩), .func (.func 38) #[] #[.pointer (some ⟨w.heap.size + 1 + 1 + 1 + 1, 0, none⟩)], .int .i64 (x : Nat), undef, undef, undef, undef, undef, undef, undef, undef, undef, undef, undef, undef, undef, undef, undef, undef, undef, undef, undef, undef, undef, undef, undef, undef, undef, undef, undef, undef, undef, undef, undef, undef, undef, undef, undef, undef, undef, undef, undef, undef, undef, undef, undef, undef, undef, undef, undef, undef, undef, undef, undef, undef, undef, undef, undef, undef, undef, undef, undef, undef, undef, undef, undef, undef, undef, undef, undef, undef, undef, undef, undef, undef, undef, undef, undef, undef, undef, undef, undef, undef, undef, undef, undef, undef, undef, undef, undef, undef, undef, undef, undef, undef, undef, undef, undef, undef, undef, undef, undef, undef, undef, undef, undef, undef, undef, undef, undef, undef, undef, undef, undef, undef, undef, undef, undef, undef], defers := [] }) ?assign ?body ?done ?stop
  case seq =>
    intro l J Jx W hW hJ hJx hY h0
    exact all1_full _ l (by decide) J Jx hY W ((hW.block _ hx3).trans hbx) (HH.out.cut.t.from (B0 := w.heap.size) hS3 hBw (hR3.bel.trans (hW.mono hR3.bel.size))) hS3 hBw hn h0
  case assign =>
    intro l x W K hK
    gi_wp2
    exact hK
  case body =>
    rintro l pre x W ⟨hpre, hL, hbW⟩ hlt
    obtain ⟨q, hq1, hq2, hq3, hq4, hq5⟩ := ids_next hpre hlt
    obtain ⟨hle, -, -, -, -, -, hek, -⟩ := HQ.out
    have HPL := Lib.hid (⟨hpre, hq1, hq4, hq5⟩ : pre = (idsT T).take pre.length ∧ (idsT T)[pre.length]? = some q ∧ T.has (q : Nat) = true ∧ ∀ j, nextT T pre ≤ j → j < q → T.has (j : Nat) = false)
    have hqk : q ≤ k := by omega
    have HW := Lib.hid (⟨hL, hbW⟩ : LookR w W tb rb (nextT T pre) ∧ W.heap[w.heap.size + 1 + 1 + 1 + 1]? = some (.cells #[.pointer (some ⟨tb, 0, none⟩)] 30 (0, 0)))
    have HLE := Lib.hid hle
    clear hpre hq1 hq4 hq5 hL hbW hbx hR3 hx3 hle hek hq3 hlt
    gi_wp2
    gi_loopw [34] (fun _ wr => ∃ j : Nat, nextT T pre ≤ j ∧ j ≤ q ∧ LookR w wr tb rb j ∧ wr.heap[w.heap.size + 1 + 1 + 1 + 1]? = some (.cells #[.pointer (some ⟨tb, 0, none⟩)] 30 (0, 0)) ∧ KeepsOthers W wr ∧ Below w.heap.size W wr) (fun _ wr => q - (intOf ((wr.cell? ⟨w.heap.size + 1 + 1 + 1, 0, none⟩).getD undef)).toNat)
    case atStart => exact ⟨_, Nat.le_refl _, hq2, HW.out.1, HW.out.2, KeepsOthers.refl _, Below.refl _ _⟩
    case round =>
      obtain ⟨j, hj1, hj2, hL, hbx, hko, hbl⟩ := hrel
      have HHS := Lib.hid (rhas7 (j : Int) wr (HA.out wr hL.bel).r HLE.out hn)
      obtain ⟨d0, d1, d2, d3, d4, d5⟩ := hL.cells
      by_cases hlt : j < q
      · rw [HPL.out.2.2.2 j hj1 hlt] at HHS
        have hL2 := hL.put (j + 1)
        obtain ⟨m0, m1, m2, m3, m4, m5⟩ := hL2.cells
        obtain ⟨m6, -⟩ := HK.out _ hL2.bel
        have ej : ((j + 1 : Nat) : Int) = (j : Int) + 1 := by omega
        rw [ej] at m0 m1 m2 m3 m4 m5 m6
        have g1 : decide ((k : Int) < (j : Int) + 1) = false := by rw [decide_eq_false_iff_not]; omega
        have hbd : Below (wr.setCell ⟨w.heap.size + 1 + 1 + 1, 0, none⟩ (.int .i64 ((j + 1 : Nat) : Int))).heap.size (wr.setCell ⟨w.heap.size + 1 + 1 + 1, 0, none⟩ (.int .i64 ((j + 1 : Nat) : Int))) (wr.setCell ⟨w.heap.size + 1 + 1 + 1, 0, none⟩ (.int .i64 ((j + 1 : Nat) : Int))).drew := (Below.refl _ _).drew
        have hbx2 : (wr.setCell ⟨w.heap.size + 1 + 1 + 1, 0, none⟩ (.int .i64 ((j + 1 : Nat) : Int))).drew.heap[w.heap.size + 1 + 1 + 1 + 1]? = some (.cells #[.pointer (some ⟨tb, 0, none⟩)] 30 (0, 0)) := by
          have hG := grown_set (w := wr) (g := w.heap.size + 1 + 1 + 1) (o := 0) (.int .i64 ((j + 1 : Nat) : Int))
          exact (hG.block _ (lt_of_heap hbx) (fun e => by injection e; omega)).trans hbx
        have hN : LookR w (wr.setCell ⟨w.heap.size + 1 + 1 + 1, 0, none⟩ (.int .i64 ((j + 1 : Nat) : Int))).drew tb rb (j + 1) ∧ (wr.setCell ⟨w.heap.size + 1 + 1 + 1, 0, none⟩ (.int .i64 ((j + 1 : Nat) : Int))).drew.heap[w.heap.size + 1 + 1 + 1 + 1]? = some (.cells #[.pointer (some ⟨tb, 0, none⟩)] 30 (0, 0)) ∧ KeepsOthers W (wr.setCell ⟨w.heap.size + 1 + 1 + 1, 0, none⟩ (.int .i64 ((j + 1 : Nat) : Int))).drew ∧ Below w.heap.size W (wr.setCell ⟨w.heap.size + 1 + 1 + 1, 0, none⟩ (.int .i64 ((j + 1 : Nat) : Int))).drew :=
          ⟨hL2.below hbd, hbx2, (hko.trans (KeepsOthers.setCell _ _ _)).trans (KeepsOthers.drew _), (hbl.setCell (p := ⟨w.heap.size + 1 + 1 + 1, 0, none⟩) (by show w.heap.size ≤ w.heap.size + 1 + 1 + 1; omega) _).drew⟩
        rw [ej] at hN
        have HN := Lib.hid hN
        have hmc := m4
        have hmx : Tryd.prog.follows .mixedOrders = true := by kernel_rfl
        clear hbd hbx2 hN
        clear hL hL2 hbx hko hbl
        gi_wp2_with (refine ⟨trivial, ?_⟩; gi_at_call 13; refine (CallsIn.inRound l (callsIn_wide.2 HHS.out)).mono ?_; rintro e wx ⟨rfl, hw⟩; have hw := hw.symm; subst hw)
        gi_region_with_o (fail)
        all_goals gi_wp2
        all_goals go_roundw
        all_goals first
          | exact ⟨j + 1, by omega, by omega, HN.out⟩
          | (rw [cell_drew_own, hmc, d4]; simp [intOf]; omega)
      · obtain rfl : j = q := by omega
        rw [HPL.out.2.2.1] at HHS
        by_cases hxq : x = j
        · subst hxq
          have gx : ((x : Int) != (x : Int)) = false := by simp
          have hL2 := hL.put (x + 1)
          have ej : ((x + 1 : Nat) : Int) = (x : Int) + 1 := by omega
          rw [ej] at hL2
          obtain ⟨m0, m1, m2, m3, m4, m5⟩ := hL2.cells
          have hP := HA.out _ hL2.bel
          have HST := Lib.hid (set_own HPL.out.2.2.1 (wr.setCell ⟨w.heap.size + 1 + 1 + 1, 0, none⟩ (.int .i64 ((x : Int) + 1))) hP.t hn)
          have HL := Lib.hid (⟨hL2, hbx, hko, hbl⟩ : LookR w (wr.setCell ⟨w.heap.size + 1 + 1 + 1, 0, none⟩ (.int .i64 ((x : Int) + 1))) tb rb (x + 1) ∧ wr.heap[w.heap.size + 1 + 1 + 1 + 1]? = some (.cells #[.pointer (some ⟨tb, 0, none⟩)] 30 (0, 0)) ∧ KeepsOthers W wr ∧ Below w.heap.size W wr)
          clear hL hL2 hbx hko hbl hP
          gi_wp2_with (first
            | (refine ⟨trivial, ?_⟩; gi_at_call 13; refine (CallsIn.inRound l (callsIn_wide.2 HHS.out)).mono ?_; rintro e wx ⟨rfl, hw⟩; have hw := hw.symm; subst hw)
            | (refine ⟨trivial, ?_⟩; gi_at_call 21; refine (CallsIn.inRound l (callsIn_wide.2 HST.out)).mono ?_; rintro e w6 ⟨ua, uc, rfl, ho6, hb6⟩; refine Hid.out ?_))
          have L6 := HL.out.1.below hb6
          have hx6 : w6.heap[w.heap.size + 1 + 1 + 1 + 1]? = some (.cells #[.pointer (some ⟨tb, 0, none⟩)] 30 (0, 0)) := by
            have hG := grown_set (w := wr) (g := w.heap.size + 1 + 1 + 1) (o := 0) (.int .i64 ((x : Int) + 1))
            have e1 := (hG.block _ (lt_of_heap HL.out.2.1) (fun e => by injection e; omega)).trans HL.out.2.1
            exact (hb6.block _ (lt_of_heap e1)).trans e1
          have hko6 : KeepsOthers W w6 := (HL.out.2.2.1.trans (KeepsOthers.setCell _ _ _)).trans (KeepsOthers.of_below hb6)
          have hbl6 : Below w.heap.size W w6 := below_add (HL.out.2.2.2.setCell (p := ⟨w.heap.size + 1 + 1 + 1, 0, none⟩) (by show w.heap.size ≤ w.heap.size + 1 + 1 + 1; omega) _) hb6 HL.out.1.bel.size
          have hP6 := HA.out w6 L6.bel
          obtain ⟨u0, u1, u2, u3, u4, u5⟩ := L6.cells
          have HO6 := Lib.hid ho6
          have HX6 := Lib.hid (⟨L6, hx6, hko6, hbl6⟩ : LookR w w6 tb rb (x + 1) ∧ w6.heap[w.heap.size + 1 + 1 + 1 + 1]? = some (.cells #[.pointer (some ⟨tb, 0, none⟩)] 30 (0, 0)) ∧ KeepsOthers W w6 ∧ Below w.heap.size W w6)
          have hHD := fun p => heldB (x : Nat) (w6.drewN p) (hP6.below (below_drewN w6 p)).t hn
          have hhx : heldI T (x : Nat) = (T.times x : Nat) := by
            unfold heldI
            rw [HPL.out.2.2.1, if_pos rfl, Int.toNat_natCast]
          obtain ⟨sv, hv, lv, V, H, L, E, hM, hT⟩ := hP6.r
          by_cases hx0 : 0 < x
          · obtain ⟨y, hy⟩ : ∃ y, x = y + 1 := ⟨x - 1, by omega⟩
            have hek := HQ.out.2.2.2.2.2.2.1
            have hhl := hT.hl
            have hyH : y < H.length := by omega
            obtain ⟨⟨sa2, sc2, rfl⟩, ⟨ha2, hc2, rfl⟩, -⟩ := hM.shapes
            obtain ⟨sb, so, hb2, ho2, rfl, rfl, q1, q2, q3, q4, ci, hset⟩ := rref_place hM hT hyH
            have hlx : T.live x := by
              obtain ⟨i, e1, e2⟩ := has_live HPL.out.2.2.1
              have : x = i := by omega
              rw [this]; exact e2
            have htp : 0 < T.times (y + 1) := by
              rw [← hy]
              rcases hlx with e | ⟨-, e⟩
              · omega
              · exact e
            obtain ⟨a2, c2, cs, hrow⟩ := hset htp
            rw [← hy] at ci cs hrow
            rw [hhx] at hHD
            obtain ⟨-, v1, v2, -, v4⟩ := hM.cells
            have hne : 0 < (T.set x).length := by
              rcases Nat.eq_zero_or_pos (T.set x).length with e | e
              · exfalso
                have e0 := List.length_eq_zero_iff.1 e
                have l1 := look_live HH.out.t.ok hlx
                have l0 := look_live HH.out.t.ok (i := 0) (.inl rfl)
                rw [HH.out.t.ok.zero] at l0
                rw [e0, l0] at l1
                have := Option.some.inj l1
                omega
              · exact e
            obtain ⟨ub, cap, eq6, hub, hcap, hKR⟩ := KeyRow.of_own ho6 hne
            injection eq6 with eqa _ eqc
            subst eqa
            subst eqc
            have hslen := Row.len hrow
            have HROW := Lib.hid hrow
            have HKR := Lib.hid hKR
            subst hy
            have ei : ((y + 1 : Nat) : Int) = (y : Int) + 1 := by omega
            have hwx : IntKind.i64.wrap (y : Int) = (y : Int) := by rw [IntKind.wrap_i64]; omega
            have y0 : (0 : Int) ≤ (y : Int) := by omega
            have hyb : y ≤ 1000000 := by omega
            have y1 : (y : Int) < (H.length : Int) := by omega
            have y2 : (y : Int) < (V.length : Int) := by have := hT.vl; omega
            have hmx : Tryd.prog.follows .mixedOrders = true := by kernel_rfl
            have HHX := Lib.hid hhx
            generalize T.times (y + 1) = tx at *
            clear L6 hx6 hko6 hbl6 hP6 hHD hhx hM hT hb6 ho6 HST HHS d0 d1 d2 d3 d4 d5 m0 m1 m2 m3 m4 m5 hset hrow hlx htp hek hhl hKR
            refine Lib.hid ?_
            rw [ei]
            gi_wp2_with (fail)
            refine wpIn_region_quiet_round hmx (by kernel_rfl) (by kernel_rfl) ?_
            repeat (refine wpQuietIn_step (fun _ _ _ _ => trivial) (fun K hK => ?_); go_simp; refine hK _ ?_; clear hK K)
            refine wpQuietIn_nil ?_
            intro _ hw'
            obtain ⟨nq, hw''⟩ := hw'
            subst hw''
            have hb7 := below_drewN w6 nq
            have hSM := rsame_any5 _ _ (T.set (y + 1)) (T.set (y + 1)) (w6.drewN nq) ((Row.of_owns (C := attC) HO6.out).1.below hb7 (Nat.le_refl _)) (HROW.out.below hb7 (Nat.le_refl _))
            rw [decide_eq_true rfl] at hSM
            have hHX : heldI T ((y : Int) + 1) = (tx : Nat) := by rw [← ei]; exact HHX.out
            have hHD := fun p => heldB ((y : Int) + 1) ((w6.drewN nq).drewN p) (((HA.out w6 HX6.out.1.bel).below hb7).below (below_drewN _ p)).t hn
            simp only [hHX] at hHD
            have hub5 : w.heap.size + 1 + 1 + 1 + 1 < ub := by
              have hG := (grown_set (w := wr) (g := w.heap.size + 1 + 1 + 1) (o := 0) (.int .i64 (((y + 1 : Nat) : Int) + 1))).size
              have := lt_of_heap HL.out.2.1
              omega
            have R7 := Lib.hid (show KeyRow ub (T.set (y + 1)).length (w6.drewN nq) ∧ LookR w (w6.drewN nq) tb rb (y + 1 + 1) ∧ (w6.drewN nq).heap[w.heap.size + 1 + 1 + 1 + 1]? = some (.cells #[.pointer (some ⟨tb, 0, none⟩)] 30 (0, 0)) ∧ KeepsOthers W (w6.drewN nq) ∧ Below w.heap.size W (w6.drewN nq) from
              ⟨HKR.out.below hb7, HX6.out.1.below hb7, (hb7.block _ (lt_of_heap HX6.out.2.1)).trans HX6.out.2.1, HX6.out.2.2.1.trans (KeepsOthers.of_below hb7), below_add HX6.out.2.2.2 hb7 HX6.out.1.bel.size⟩)
            have HSM := Lib.hid hSM
            have HHD := Lib.hid hHD
            generalize w6.drewN nq = w7 at *
            clear hb7 hSM hHD hHX HO6 HX6 HKR HROW HL
            obtain ⟨v0, v1, v2, v3, v4, v5⟩ := R7.out.2.1.cells
            refine Lib.hid ?_
            gi_wp2_with (first
              | (refine ⟨trivial, ?_⟩; gi_at_call 25; refine (CallsIn.inRound l (callsIn_wide.2 HSM.out)).mono ?_; rintro e wx ⟨rfl, p, rfl⟩)
              | (refine ⟨trivial, ?_⟩; gi_at_call 23; refine (CallsIn.inRound l (callsIn_wide.2 (HHD.out p))).mono ?_; rintro e wx ⟨rfl, hw⟩; have hw := hw.symm; subst hw))
            clear v0 v1 v2 v3 v4 v5
            have hb8 := below_drewN w7 p
            have R8 := Lib.hid (show KeyRow ub (T.set (y + 1)).length (w7.drewN p) ∧ LookR w (w7.drewN p) tb rb (y + 1 + 1) ∧ (w7.drewN p).heap[w.heap.size + 1 + 1 + 1 + 1]? = some (.cells #[.pointer (some ⟨tb, 0, none⟩)] 30 (0, 0)) ∧ KeepsOthers W (w7.drewN p) ∧ Below w.heap.size W (w7.drewN p) from
              ⟨R7.out.1.below hb8, R7.out.2.1.below hb8, (hb8.block _ (lt_of_heap R7.out.2.2.1)).trans R7.out.2.2.1, R7.out.2.2.2.1.trans (KeepsOthers.of_below hb8), below_add R7.out.2.2.2.2 hb8 R7.out.2.1.bel.size⟩)
            generalize w7.drewN p = w8 at *
            clear hb8 R7 HSM HHD
            generalize (T.set (y + 1)).length = sl at *
            gi_loopw [97] (fun s97 wr => ∃ i : Nat, i ≤ sl ∧ s97 = .int .i64 i ∧ KeyRow ub sl wr ∧ LookR w wr tb rb (y + 1 + 1) ∧ wr.heap[w.heap.size + 1 + 1 + 1 + 1]? = some (.cells #[.pointer (some ⟨tb, 0, none⟩)] 30 (0, 0)) ∧ KeepsOthers W wr ∧ Below w.heap.size W wr) (fun s97 _ => sl - (intOf s97).toNat)
            case atStart => exact ⟨0, Nat.zero_le _, rfl, R8.out⟩
            case round =>
              obtain ⟨i, hi, rfl, hK, hLk, hbx, hko, hbl⟩ := hrel
              by_cases hlti : i < sl
              · obtain ⟨⟨kq, hc⟩, hf⟩ := hK.at hlti
                have i0 : (0 : Int) ≤ (i : Int) := by omega
                have i1 : (i : Int) < (sl : Int) := by omega
                have hG := grown_set (w := wr) (g := ub) (o := i * 5) (.int .i64 (wrap64 (kq + 1)))
                have R9 := Lib.hid (show KeyRow ub sl (wr.setCell ⟨ub, i * 5, none⟩ (.int .i64 (wrap64 (kq + 1)))) ∧ LookR w (wr.setCell ⟨ub, i * 5, none⟩ (.int .i64 (wrap64 (kq + 1)))) tb rb (y + 1 + 1) ∧ (wr.setCell ⟨ub, i * 5, none⟩ (.int .i64 (wrap64 (kq + 1)))).heap[w.heap.size + 1 + 1 + 1 + 1]? = some (.cells #[.pointer (some ⟨tb, 0, none⟩)] 30 (0, 0)) ∧ KeepsOthers W (wr.setCell ⟨ub, i * 5, none⟩ (.int .i64 (wrap64 (kq + 1)))) ∧ Below w.heap.size W (wr.setCell ⟨ub, i * 5, none⟩ (.int .i64 (wrap64 (kq + 1)))) from
                  ⟨hK.set i _, hLk.own (B := w.heap.size + 4) (Nat.le_refl _) hG (fun r e => by injection e; omega), (hG.block _ (lt_of_heap hbx) (fun e => by injection e; omega)).trans hbx, hko.trans (KeepsOthers.setCell _ _ _), hbl.setCell (p := ⟨ub, i * 5, none⟩) (by show w.heap.size ≤ ub; omega) _⟩)
                clear hK hLk hbx hko hbl hG
                gi_wp2
                go_roundw
                case rel => exact ⟨i + 1, by omega, by go_num, R9.out⟩
                case measure => simp [intOf]; omega
              · obtain rfl : i = sl := by omega
                have FIN := Lib.hid (show KeepsOthers W wr ∧ KpT w.heap.size (w.heap.size + 1 + 1 + 1 + 1) W wr ∧ (pre ++ [y + 1] = (idsT T).take (pre ++ [y + 1]).length ∧ LookR w wr tb rb (nextT T (pre ++ [y + 1])) ∧ wr.heap[w.heap.size + 1 + 1 + 1 + 1]? = some (.cells #[.pointer (some ⟨tb, 0, none⟩)] 30 (0, 0))) from
                  ⟨hko, ⟨hbl, hbx.trans HW.out.2.symm⟩, take_next HPL.out.1 HPL.out.2.1, by rw [nextT_snoc]; exact hLk, hbx⟩)
                clear hK hLk hbx hko hbl
                gi_wp2
                exact FIN.out
          · have hx00 : x = 0 := by omega
            have g15 : decide ((0 : Int) < (x : Int)) = false := by rw [decide_eq_false_iff_not]; omega
            have v4 := hM.cells.2.2.2.2
            have hE : (T.times x : Nat) = E := by rw [hx00]; exact hT.em.symm
            rw [hhx, hE] at hHD
            have HHD := Lib.hid hHD
            have hset0 : T.set x = [] := by rw [hx00]; exact HH.out.t.ok.zero
            have hSM := rsame_any5 _ (.slice none 0 0) (T.set x) [] w6 (Row.of_owns (C := attC) ho6).1 (Row.nil _)
            rw [decide_eq_true hset0] at hSM
            have HSM := Lib.hid hSM
            have hl0 : (T.set x).length = 0 := by rw [hset0]; rfl
            have g97 : ¬ 0 < (T.set x).length := by omega
            clear L6 hx6 hko6 hbl6 hP6 hHD hhx hM hT hSM hset0 hl0 hE hb6 ho6 HST HHS d0 d1 d2 d3 d4 d5 m0 m1 m2 m3 m4 m5 HO6 hx00
            refine Lib.hid ?_
            gi_wp2_with (first
              | (refine ⟨trivial, ?_⟩; gi_at_call 25; refine (CallsIn.inRound l (callsIn_wide.2 HSM.out)).mono ?_; rintro e wx ⟨rfl, p, rfl⟩)
              | (refine ⟨trivial, ?_⟩; gi_at_call 23; refine (CallsIn.inRound l (callsIn_wide.2 (HHD.out p))).mono ?_; rintro e wx ⟨rfl, hw⟩; have hw := hw.symm; subst hw))
            have hbp := below_drewN w6 p
            have FIN := Lib.hid (show KeepsOthers W (w6.drewN p) ∧ KpT w.heap.size (w.heap.size + 1 + 1 + 1 + 1) W (w6.drewN p) ∧ (pre ++ [x] = (idsT T).take (pre ++ [x]).length ∧ LookR w (w6.drewN p) tb rb (nextT T (pre ++ [x])) ∧ (w6.drewN p).heap[w.heap.size + 1 + 1 + 1 + 1]? = some (.cells #[.pointer (some ⟨tb, 0, none⟩)] 30 (0, 0))) from by
              obtain ⟨y1, y2, y3, y4⟩ := HX6.out
              have yb := (hbp.block _ (lt_of_heap y2)).trans y2
              exact ⟨y3.trans (KeepsOthers.of_below hbp), ⟨below_add y4 hbp (Nat.le_trans y1.bel.size (Nat.le_refl _)), yb.trans HW.out.2.symm⟩, take_next HPL.out.1 HPL.out.2.1, by rw [nextT_snoc]; exact y1.below hbp, yb⟩)
            clear hbp
            refine wpIn_loop_once ?_
            gi_wp2
            exact FIN.out
        · have gx : ((x : Int) != (j : Int)) = true := by simp; omega
          have HKO := Lib.hid hko
          clear hL hbx hbl hko
          gi_wp2_with (refine ⟨trivial, ?_⟩; gi_at_call 13; refine (CallsIn.inRound l (callsIn_wide.2 HHS.out)).mono ?_; rintro e wx ⟨rfl, hw⟩; have hw := hw.symm; subst hw)
          exact ⟨HKO.out.trans (KeepsOthers.setCell _ _ _), not_pre HPL.out.2.1 hxq⟩
  case done =>
    rintro D xs W hD rfl ⟨-, hL, -⟩ hdf
    obtain ⟨hle, hes, -, -, -, -, hek, -⟩ := HQ.out
    have hnx := nextT_le T
    rw [hek] at hnx
    have HLE := Lib.hid hle
    have HD := Lib.hid (show W3.heap.size ≤ D ∧ w.heap.size < D from ⟨hD, by omega⟩)
    have HL := Lib.hid (show LookR w W tb rb (nextT T (idsT T)) ∧ W.heap[D]? = some (.deferred (some [])) from ⟨hL, hdf⟩)
    clear hL hdf hbx hR3 hx3 hle hes hD
    go_wp2
    go_loopw [109] (fun _ wr => ∃ j : Nat, nextT T (idsT T) ≤ j ∧ j ≤ k + 1 ∧ LookR w wr tb rb j ∧ wr.heap[D]? = some (.deferred (some []))) (fun _ wr => k + 1 - (intOf ((wr.cell? ⟨w.heap.size + 1 + 1 + 1, 0, none⟩).getD undef)).toNat)
    case atStart => exact ⟨_, Nat.le_refl _, hnx, HL.out⟩
    case round =>
      obtain ⟨j, hj1, hj2, hL, hdf⟩ := hrel
      obtain ⟨d0, d1, d2, d3, d4, d5⟩ := hL.cells
      obtain ⟨c1, c3⟩ := HK.out _ hL.bel
      by_cases hlt : j ≤ k
      · have g1 : decide ((j : Int) ≤ (k : Int)) = true := by rw [decide_eq_true_iff]; omega
        have hHS := fun p => rhas7 (j : Int) (wr.drewN p) ((HA.out wr hL.bel).r.below (below_drewN wr p)) HLE.out hn
        simp only [ids_last hj1 (show j < T.es.length by omega)] at hHS
        have HHS := Lib.hid hHS
        have HLq := Lib.hid (fun p => (show LookR w (wr.drewN p) tb rb j ∧ (wr.drewN p).heap[D]? = some (.deferred (some [])) from ⟨hL.below (below_drewN wr p), ((below_drewN wr p).block D (lt_of_heap hdf)).trans hdf⟩))
        clear hHS hL hdf
        go_wp2_with fail
        go_quiet (fail)
        have HH9 := Lib.hid (HHS.out nq)
        obtain ⟨hLq, hdq⟩ := HLq.out nq
        generalize wr.drewN nq = w9 at *
        obtain ⟨e0, e1, e2, e3, e4, e5⟩ := hLq.cells
        have hL2 := hLq.put (j + 1)
        have hG := grown_set (w := w9) (g := w.heap.size + 1 + 1 + 1) (o := 0) (.int .i64 ((j + 1 : Nat) : Int))
        have hd2 := (hG.block D (lt_of_heap hdq) (fun e => by injection e with e; subst e; rw [hLq.bn] at hdq; cases hdq)).trans hdq
        obtain ⟨-, -, -, -, m4, -⟩ := hL2.cells
        have ej : ((j + 1 : Nat) : Int) = (j : Int) + 1 := by omega
        rw [ej] at m4 hL2 hd2
        have HN := Lib.hid (show LookR w (w9.setCell ⟨w.heap.size + 1 + 1 + 1, 0, none⟩ (.int .i64 ((j : Int) + 1))) tb rb (j + 1) ∧ (w9.setCell ⟨w.heap.size + 1 + 1 + 1, 0, none⟩ (.int .i64 ((j : Int) + 1))).heap[D]? = some (.deferred (some [])) from ⟨hL2, hd2⟩)
        clear hL2 hd2 hG hLq hdq HHS HLq
        go_wp2_with (go_at_call 13; refine HH9.out.mono ?_; rintro e wx ⟨rfl, hw⟩; have hw := hw.symm; subst hw)
        go_roundw
        case rel => exact ⟨j + 1, by omega, by omega, HN.out⟩
        case measure => rw [m4, d4]; simp [intOf]; omega
      · have g1 : decide ((j : Int) ≤ (k : Int)) = false := by rw [decide_eq_false_iff_not]; omega
        have HLq := Lib.hid (fun p => (show LookR w (wr.drewN p) tb rb j ∧ (wr.drewN p).heap[D]? = some (.deferred (some [])) from ⟨hL.below (below_drewN wr p), ((below_drewN wr p).block D (lt_of_heap hdf)).trans hdf⟩))
        clear hL hdf
        go_wp2_with fail
        go_quiet (fail)
        obtain ⟨hLq, hdq⟩ := HLq.out nq
        generalize wr.drewN nq = w9 at *
        have HL9 := Lib.hid (show LookR w w9 tb rb j ∧ w9.heap[D]? = some (.deferred (some [])) from ⟨hLq, hdq⟩)
        have HAL := Lib.hid (all_any (some ⟨tb, 0, none⟩) w9)
        obtain ⟨e0, e1, e2, e3, e4, e5⟩ := hLq.cells
        clear hLq hdq HLq d0 d1 d2 d3 d4 d5 c1 c3
        go_wp2_with (go_at_call 22; refine HAL.out.mono ?_; rintro e wx ⟨rfl, hw⟩; subst hw)
        have hbA := (Below.refl w9.heap.size w9).alloc (Nat.le_refl _) (.cells #[.pointer (some ⟨tb, 0, none⟩)] 30)
        have hbA0 := hbA.mono HL9.out.1.bel.size
        refine (wpIn_wide (n := 9)).1 ?_
        refine range_break (bx := w9.heap.size) (B0 := w.heap.size) rfl (heap_alloc_new w9 _) (HH.out.cut.t.from (B0 := w.heap.size) hS3 hBw (HL9.out.1.bel.trans hbA0)) hS3 hBw (Nat.le_trans HL9.out.1.bel.size hbA.size) hn (ids_ne HQ.out.2.2.2.1) ?_
        intro D2 W9 hD2 hb9 hK2
        have hb99 := below_add hbA hb9 hbA.size
        have hLA := HL9.out.1.below hb99
        have hdA := (hb99.block D (lt_of_heap HL9.out.2)).trans HL9.out.2
        have hDD : D < D2 := by have := lt_of_heap HL9.out.2; have := hbA.size; omega
        have HB := Lib.hid (show LookR w W9 tb rb j ∧ W9.heap[D]? = some (.deferred (some [])) ∧ W9.heap[D2]? = some (.deferred (some [])) ∧ D < D2 from ⟨hLA, hdA, hK2, hDD⟩)
        have hPA := HA.out W9 hLA.bel
        have HST := Lib.hid (setB ask W9 hPA.t hn)
        obtain ⟨e0, e1, e2, e3, e4, e5⟩ := hLA.cells
        clear hbA hbA0 hb9 hb99 hLA hdA hDD hD2 hK2 hPA HL9
        cases hh : T.has ask with
        | true =>
          have HS2 := Lib.hid (HST.out.mono fun e w' hP => set_yes hh hP)
          go_wp2_with (go_at_call 21; refine HS2.out.mono ?_; rintro e w2 ⟨u, rfl, hb2⟩; refine Hid.out ?_)
          have hPA := HA.out W9 HB.out.1.bel
          have HHS := Lib.hid (rhas7 ask w2 (hPA.below hb2).r HLE.out hn)
          rw [hh] at HHS
          have hL2 := HB.out.1.below hb2
          obtain ⟨d0, d1, d2, d3, d4, d5⟩ := hL2.cells
          have HB2 := Lib.hid hb2
          clear hPA hL2 hb2 HS2 HST
          refine Lib.hid ?_
          go_wp2_with (go_at_call 13; refine HHS.out.mono ?_; rintro e wx ⟨rfl, hw⟩; have hw := hw.symm; subst hw)
          have hL2 := HB.out.1.below HB2.out
          obtain ⟨-, q1', q2', hDD⟩ := HB.out
          have q0 := (HB2.out.block D (lt_of_heap q1')).trans q1'
          have q1 := (HB2.out.block D2 (lt_of_heap q2')).trans q2'
          have hDw : w.heap.size < D := HD.out.2
          have hBl := hL2.bel
          have hbo := hL2.bo
          clear q1' q2'
          have k3 := World.cell?_setCell_same' w2 ⟨w.heap.size + 1 + 1, 0, none⟩ (.bool true) (by rw [d2]; rfl)
          have hB4 := hBl.setCell (p := ⟨w.heap.size + 1 + 1, 0, none⟩) (by show w.heap.size ≤ w.heap.size + 1 + 1; omega) (.bool true)
          have r0 := (KeepsOthers.setCell w2 ⟨w.heap.size + 1 + 1, 0, none⟩ (.bool true)).same D _ q0 rfl
          have r1 := (KeepsOthers.setCell w2 ⟨w.heap.size + 1 + 1, 0, none⟩ (.bool true)).same D2 _ q1 rfl
          generalize w2.setCell ⟨w.heap.size + 1 + 1, 0, none⟩ (.bool true) = W4 at *
          have hG5 := grownBy_putObj' W4 D2 (.deferred none)
          have q5 := ((Off.of_grown (S := fun k => k = D2) hG5 (fun g hg => by cases hg; rfl)).block D (lt_of_heap r0) (fun e => by have e' : D = D2 := e; omega)).trans r0
          have k5 := cell_kept k3 hG5 (fun r e => by cases e; exact ⟨_, r1, rfl⟩)
          have hB5 := hB4.trans (belowK_b (w := w) (Nat.le_refl _) W4 D2 _ (.deferred none) (by omega) r1 rfl rfl)
          have k6 := cell_kept k5 (grownBy_putObj' (W4.putObj D2 (.deferred none)) D (.deferred none)) (fun r e => by cases e; exact ⟨_, q5, rfl⟩)
          have hB6 := hB5.trans (belowK_b (w := w) (Nat.le_refl _) (W4.putObj D2 (.deferred none)) D _ (.deferred none) (by omega) q5 rfl rfl)
          refine ⟨by simp, .inl ⟨_, _, rfl, run_takeDeferred r1, by simp, .inl ⟨_, _, rfl, run_takeDeferred q5, ?_⟩⟩⟩
          refine ⟨.bool true, ?_, rfl, hB6⟩
          simp [results, Tryd.f20, go_sem, k6]
        | false =>
          have HS2 := Lib.hid (HST.out.mono fun e w' hP => set_not hh hP)
          go_wp2_with (go_at_call 21; refine HS2.out.mono ?_; rintro e w2 ⟨u, rfl, hb2⟩; refine Hid.out ?_)
          have hPA := HA.out W9 HB.out.1.bel
          have HHS := Lib.hid (rhas7 ask w2 (hPA.below hb2).r HLE.out hn)
          rw [hh] at HHS
          have HHE := Lib.hid (heldB ask w2 (hPA.below hb2).t hn)
          have hhz : heldI T ask = 0 := by unfold heldI; rw [hh]; rfl
          rw [hhz] at HHE
          have hL2 := HB.out.1.below hb2
          obtain ⟨d0, d1, d2, d3, d4, d5⟩ := hL2.cells
          have HB2 := Lib.hid hb2
          clear hPA hL2 hb2 HS2 HST
          refine Lib.hid ?_
          go_wp2_with (first | (go_at_call 13; refine HHS.out.mono ?_; rintro e wx ⟨rfl, hw⟩; have hw := hw.symm; subst hw) | (go_at_call 23; refine HHE.out.mono ?_; rintro e wx ⟨rfl, hw⟩; have hw := hw.symm; subst hw))
          have hL2 := HB.out.1.below HB2.out
          obtain ⟨-, q1', q2', hDD⟩ := HB.out
          have q0 := (HB2.out.block D (lt_of_heap q1')).trans q1'
          have q1 := (HB2.out.block D2 (lt_of_heap q2')).trans q2'
          have hDw : w.heap.size < D := HD.out.2
          have hBl := hL2.bel
          have hbo := hL2.bo
          clear q1' q2'
          have k3 := World.cell?_setCell_same' w2 ⟨w.heap.size + 1 + 1, 0, none⟩ (.bool true) (by rw [d2]; rfl)
          have hB4 := hBl.setCell (p := ⟨w.heap.size + 1 + 1, 0, none⟩) (by show w.heap.size ≤ w.heap.size + 1 + 1; omega) (.bool true)
          have r0 := (KeepsOthers.setCell w2 ⟨w.heap.size + 1 + 1, 0, none⟩ (.bool true)).same D _ q0 rfl
          have r1 := (KeepsOthers.setCell w2 ⟨w.heap.size + 1 + 1, 0, none⟩ (.bool true)).same D2 _ q1 rfl
          generalize w2.setCell ⟨w.heap.size + 1 + 1, 0, none⟩ (.bool true) = W4 at *
          have hG5 := grownBy_putObj' W4 D2 (.deferred none)
          have q5 := ((Off.of_grown (S := fun k => k = D2) hG5 (fun g hg => by cases hg; rfl)).block D (lt_of_heap r0) (fun e => by have e' : D = D2 := e; omega)).trans r0
          have k5 := cell_kept k3 hG5 (fun r e => by cases e; exact ⟨_, r1, rfl⟩)
          have hB5 := hB4.trans (belowK_b (w := w) (Nat.le_refl _) W4 D2 _ (.deferred none) (by omega) r1 rfl rfl)
          have k6 := cell_kept k5 (grownBy_putObj' (W4.putObj D2 (.deferred none)) D (.deferred none)) (fun r e => by cases e; exact ⟨_, q5, rfl⟩)
          have hB6 := hB5.trans (belowK_b (w := w) (Nat.le_refl _) (W4.putObj D2 (.deferred none)) D _ (.deferred none) (by omega) q5 rfl rfl)
          refine ⟨by simp, .inl ⟨_, _, rfl, run_takeDeferred r1, by simp, .inl ⟨_, _, rfl, run_takeDeferred q5, ?_⟩⟩⟩
          refine ⟨.bool true, ?_, rfl, hB6⟩
          simp [results, Tryd.f20, go_sem, k6]
  case stop =>
    rintro D c pre W _ h1 h2 _
    exact absurd h1 h2
end Go.Proofs.YtiobcifpebehnaaDoor
