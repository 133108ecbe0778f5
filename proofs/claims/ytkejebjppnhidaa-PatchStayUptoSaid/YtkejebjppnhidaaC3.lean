
import Derived.Test.YtkejebjppnhidaaC2
import Derived.Deep.AppendLies
import Derived.RegionTactic
/- C3: what the closures do to the list that they put to -/
namespace Go.Proofs.Ytkejebjppnhidaa
open Go.RowKit
set_option linter.unusedVariables false

/-- The list so far lies in the cell at B0; else nothing that was there at W1 has turned. -/
structure Acc (W1 : World) (B0 : Nat) (v : Value) (ls : List Chg) (W : World) : Prop where
  cell : W.cell? ⟨B0, 0, none⟩ = some v
  free : W.frozen? ⟨B0, 0, none⟩ = false
  own : W.ownsRow W1.heap.size 52 6 v ls.length (fl chC ls)
  grown : W1.grownBy W (some B0)
  lt : B0 < W1.heap.size
theorem grown_drewN {w w' : World} {r : Option Nat} (h : w.grownBy w' r) (n : Nat) : w.grownBy (w'.drewN n) r := by
  obtain ⟨h1, h2, h3, h4, h5⟩ := h
  exact ⟨h1, h2, h3, h4, h5⟩
theorem Acc.drewN {W1 : World} {B0 : Nat} {v : Value} {ls : List Chg} {W : World} (h : Acc W1 B0 v ls W) (n : Nat) : Acc W1 B0 v ls (W.drewN n) :=
  ⟨h.cell, h.free, owns_below h.own (blw_drewN (Below.refl _ _) n), grown_drewN h.grown n, h.lt⟩
theorem Acc.size {W1 : World} {B0 : Nat} {v : Value} {ls : List Chg} {W : World} (h : Acc W1 B0 v ls W) : W1.heap.size ≤ W.heap.size := h.grown.size
/-- A block that was there, but for the cell's, is as it was. -/
theorem Acc.block {W1 : World} {B0 : Nat} {v : Value} {ls : List Chg} {W : World} (h : Acc W1 B0 v ls W) {j : Nat} (hj : j < W1.heap.size) (hn : j ≠ B0) : W.heap[j]? = W1.heap[j]? := by
  exact h.grown.block j hj (by simpa using hn)
theorem Acc.row {W1 : World} {B0 : Nat} {v u : Value} {ls xs : List Chg} {W : World} (h : Acc W1 B0 v ls W) (hr : Crow W1 u xs) (hn : ∀ b o n c, u = .slice (some ⟨b, o, none⟩) n c → b ≠ B0 ∨ xs = []) : Crow W u xs := by
  rcases hr with hr | ⟨b, off, cap, rfl, h0, h1, h2, h3⟩
  · exact .inl hr
  · refine .inr ⟨b, off, cap, rfl, h0, h1, h2, fun j u hu => ?_⟩
    have hc := h3 j u hu
    refine h.grown.cell (a := ⟨b, off + j, none⟩) hc ?_
    rcases hn _ _ _ _ rfl with e | e
    · simpa using e
    · subst e; simp at h0
theorem Acc.ptr {W1 : World} {B0 : Nat} {v : Value} {ls : List Chg} {W w2 w3 : World} (h : Acc W1 B0 v ls W) (hb : Below W.heap.size W w2) (hg : w2.grownBy w3 v.ownBlock) :
    w3.cell? ⟨B0, 0, none⟩ = some v ∧ w3.frozen? ⟨B0, 0, none⟩ = false := by
  have hB : B0 < W.heap.size := Nat.lt_of_lt_of_le h.lt h.size
  have hne : some B0 ≠ v.ownBlock := fun e => by
    have := own_base h.own e.symm
    have := h.lt
    omega
  refine ⟨hg.cell ((hb.cell (p := ⟨B0, 0, none⟩) hB).trans h.cell) hne, ?_⟩
  rw [World.frozen?_of_block (w := w2) (hg.block B0 (Nat.lt_of_lt_of_le hB hb.size) hne)]
  exact (hb.frozen (p := ⟨B0, 0, none⟩) hB).trans h.free
theorem Acc.push {W1 : World} {B0 : Nat} {v v3 : Value} {ls : List Chg} {x : Chg} {W w2 w3 : World} (h : Acc W1 B0 v ls W) (hb : Below W.heap.size W w2) (hg : w2.grownBy w3 v.ownBlock)
    (hown : w3.ownsRow W1.heap.size 52 6 v3 (ls.length + 1) (fl chC ls ++ cc x)) : Acc W1 B0 v3 (ls ++ [x]) (w3.setCell ⟨B0, 0, none⟩ v3) := by
  obtain ⟨hc, hf⟩ := h.ptr hb hg
  have hB : B0 < W.heap.size := Nat.lt_of_lt_of_le h.lt h.size
  refine ⟨World.cell?_setCell_same _ _ _ hc, (World.frozen?_setCell _ _ _ _).trans hf, ownsRow_setCell_below ?_ h.lt _, ?_, h.lt⟩
  · rw [fl_app, fl_one, List.length_append]; exact hown
  · refine ⟨hg.os.trans (hb.os.trans h.grown.os), hg.tape.trans (hb.tape.trans h.grown.tape), hg.output.trans (hb.output.trans h.grown.output), ?_, fun k hk hn => ?_⟩
    · have := h.size; have := hb.size; have := hg.size; simp; omega
    · have hk2 : k < W.heap.size := Nat.lt_of_lt_of_le hk h.size
      rw [Below.heap_setCell _ _ _ _ (by show k ≠ B0; simpa using hn), hg.block k (Nat.lt_of_lt_of_le hk2 hb.size) (fun e => by have := own_base h.own e.symm; omega), hb.block k hk2]
      exact h.grown.block k hk hn
/-- What is there, and apart from the list, is there behind its growth. -/
theorem Acc.at {W1 : World} {B0 : Nat} {v : Value} {ls : List Chg} {W w2 w3 : World} (h : Acc W1 B0 v ls W) (hb : Below W.heap.size W w2) (hg : w2.grownBy w3 v.ownBlock) {b o : Nat} {x : Chg} (hat : CAt b o x W) (hlt : b < W1.heap.size) : CAt b o x w3 := by
  have hne : some b ≠ v.ownBlock := fun e => by
    have := own_base h.own e.symm
    omega
  obtain ⟨h0, h1, h2, h3, h4, h5⟩ := hat.below hb hat.lt
  exact ⟨hg.cell h0 hne, hg.cell h1 hne, hg.cell h2 hne, hg.cell h3 hne, hg.cell h4 hne, hg.cell h5 hne⟩
/-- Where a pointer that is told points: to what was there. -/
def PtrLt (B : Nat) (p : Value) : Prop := ∀ b o, p = .pointer (some ⟨b, o, none⟩) → b < B

theorem both_alloc {W : World} {B0 b o : Nat} {v : Value} {x : Chg} (hc : W.cell? ⟨B0, 0, none⟩ = some v) (hat : CAt b o x W) (ob : Obj) : (W.alloc ob).drew.cell? ⟨B0, 0, none⟩ = some v ∧ CAt b o x (W.alloc ob).drew :=
  have hb : Below W.heap.size W (W.alloc ob).drew := ((Below.refl _ _).alloc (Nat.le_refl _) ob).drew
  ⟨(hb.cell (p := ⟨B0, 0, none⟩) (World.block_lt_of_cell? W _ hc)).trans hc, hat.below hb hat.lt⟩
theorem below_ad (W : World) (ob : Obj) : Below W.heap.size W (W.alloc ob).drew := ((Below.refl _ _).alloc (Nat.le_refl _) ob).drew
/-- A key that is gone. -/
@[reducible] def goneC (key : Int) : Chg := ⟨key, true, 0, 0, 0, ⟨#[]⟩⟩

set_option maxRecDepth 100000 in
set_option maxHeartbeats 1000000 in
theorem compose_y (W1 : World) (B0 : Nat) (v p : Value) (ls : List Chg) (W : World) (h : Acc W1 B0 v ls W) (b1 o1 : Nat) (y : Chg) (haty : CAt b1 o1 y W)  (hl : ls.length ≤ 1000000000000) :
    Calls Try.prog 44 #[p, .pointer (some ⟨b1, o1, none⟩), .pointer (some ⟨B0, 0, none⟩)] W fun e W' => e = .returned (.tuple #[]) ∧ ∃ v', Acc W1 B0 v' (ls ++ [y]) W' := by
  obtain ⟨i0, hi, hz0, hz1, hz2⟩ := info_ch
  have HA := Lib.hid h
  have hc := h.cell
  obtain ⟨y0, y1, y2, y3, y4, y5⟩ := id haty
  have hsz := h.size
  have hc2 : (W.alloc (.cells #[.int .i64 y.key, .bool y.g, .int .u8 y.k, .int .i64 y.n, .int .u64 y.f, .string y.s] 52)).drew.cell? ⟨B0, 0, none⟩ = some v := (both_alloc hc haty _).1
  clear h haty
  go_enter Try.func44, Try.ntmps44
  go_wp2
  go_region_law
    ((refine step_append_lies _ (by rfl) (.tmp 8) (.tmp 12) 23 (by rfl) W1.heap.size 52 i0 (cv noChg) 6 56 Try.underlying23 hi hz0 hz1 hz2 (by rfl) (by decide) v ls.length (fl chC ls) (by rfl) (owns_below HA.out.own (below_ad W _)) ⟨W.heap.size, 0, none⟩ 1 1 (cc y) (by rfl) (by rfl) (World.news_of_block (heap_alloc_new _ _)) (cc_one y) (by decide) (by unfold maxLen; omega) (by omega) (by simp; omega) _ rfl ?_; intro g cap w3 hown3 hgrow3 hat3 hlt3; obtain ⟨hwc, hwf⟩ := HA.out.ptr (below_ad W _) hgrow3))
  all_goals (go_end0; exact ⟨rfl, _, HA.out.push (below_ad W _) hgrow3 hown3⟩)

set_option maxRecDepth 100000 in
set_option maxHeartbeats 1000000 in
theorem compose_x (W1 : World) (B0 : Nat) (v : Value) (ls : List Chg) (W : World) (h : Acc W1 B0 v ls W) (bx ox : Nat) (x : Chg) (hatx : CAt bx ox x W)  (hl : ls.length ≤ 1000000000000) :
    Calls Try.prog 44 #[.pointer (some ⟨bx, ox, none⟩), .pointer none, .pointer (some ⟨B0, 0, none⟩)] W fun e W' => e = .returned (.tuple #[]) ∧ ∃ v', Acc W1 B0 v' (ls ++ [x]) W' := by
  obtain ⟨i0, hi, hz0, hz1, hz2⟩ := info_ch
  have HA := Lib.hid h
  have hc := h.cell
  obtain ⟨x0, x1, x2, x3, x4, x5⟩ := id hatx
  have hsz := h.size
  have hc2 : (W.alloc (.cells #[.int .i64 x.key, .bool x.g, .int .u8 x.k, .int .i64 x.n, .int .u64 x.f, .string x.s] 52)).drew.cell? ⟨B0, 0, none⟩ = some v := (both_alloc hc hatx _).1
  clear h hatx
  go_enter Try.func44, Try.ntmps44
  go_wp2
  go_region_law
    ((refine step_append_lies _ (by rfl) (.tmp 8) (.tmp 12) 23 (by rfl) W1.heap.size 52 i0 (cv noChg) 6 56 Try.underlying23 hi hz0 hz1 hz2 (by rfl) (by decide) v ls.length (fl chC ls) (by rfl) (owns_below HA.out.own (below_ad W _)) ⟨W.heap.size, 0, none⟩ 1 1 (cc x) (by rfl) (by rfl) (World.news_of_block (heap_alloc_new _ _)) (cc_one x) (by decide) (by unfold maxLen; omega) (by omega) (by simp; omega) _ rfl ?_; intro g cap w3 hown3 hgrow3 hat3 hlt3; obtain ⟨hwc, hwf⟩ := HA.out.ptr (below_ad W _) hgrow3))
  all_goals (go_end0; exact ⟨rfl, _, HA.out.push (below_ad W _) hgrow3 hown3⟩)

set_option maxRecDepth 100000 in
set_option maxHeartbeats 1000000 in
theorem less_x (W1 : World) (B0 : Nat) (v : Value) (ls : List Chg) (W : World) (h : Acc W1 B0 v ls W) (bx ox : Nat) (x : Chg) (hatx : CAt bx ox x W)  (hl : ls.length ≤ 1000000000000) :
    Calls Try.prog 46 #[.pointer (some ⟨bx, ox, none⟩), .pointer none, .pointer (some ⟨B0, 0, none⟩)] W fun e W' => e = .returned (.tuple #[]) ∧ ∃ v', Acc W1 B0 v' (ls ++ [x]) W' := by
  obtain ⟨i0, hi, hz0, hz1, hz2⟩ := info_ch
  have HA := Lib.hid h
  have hc := h.cell
  obtain ⟨x0, x1, x2, x3, x4, x5⟩ := id hatx
  have hsz := h.size
  have hc2 : (W.alloc (.cells #[.int .i64 x.key, .bool x.g, .int .u8 x.k, .int .i64 x.n, .int .u64 x.f, .string x.s] 52)).drew.cell? ⟨B0, 0, none⟩ = some v := (both_alloc hc hatx _).1
  clear h hatx
  go_enter Try.func46, Try.ntmps46
  go_wp2
  go_region_law
    ((refine step_append_lies _ (by rfl) (.tmp 7) (.tmp 11) 23 (by rfl) W1.heap.size 52 i0 (cv noChg) 6 56 Try.underlying23 hi hz0 hz1 hz2 (by rfl) (by decide) v ls.length (fl chC ls) (by rfl) (owns_below HA.out.own (below_ad W _)) ⟨W.heap.size, 0, none⟩ 1 1 (cc x) (by rfl) (by rfl) (World.news_of_block (heap_alloc_new _ _)) (cc_one x) (by decide) (by unfold maxLen; omega) (by omega) (by simp; omega) _ rfl ?_; intro g cap w3 hown3 hgrow3 hat3 hlt3; obtain ⟨hwc, hwf⟩ := HA.out.ptr (below_ad W _) hgrow3))
  all_goals (go_end0; exact ⟨rfl, _, HA.out.push (below_ad W _) hgrow3 hown3⟩)

set_option maxRecDepth 100000 in
set_option maxHeartbeats 1000000 in
theorem less_y (W1 : World) (B0 : Nat) (v p : Value) (ls : List Chg) (W : World) (h : Acc W1 B0 v ls W) (b1 o1 : Nat) (y : Chg) (haty : CAt b1 o1 y W)  (hl : ls.length ≤ 1000000000000) :
    Calls Try.prog 46 #[p, .pointer (some ⟨b1, o1, none⟩), .pointer (some ⟨B0, 0, none⟩)] W fun e W' => e = .returned (.tuple #[]) ∧ ∃ v', Acc W1 B0 v' ls W' := by
  obtain ⟨i0, hi, hz0, hz1, hz2⟩ := info_ch
  have HA := Lib.hid h
  have hc := h.cell
  obtain ⟨y0, y1, y2, y3, y4, y5⟩ := id haty
  have hsz := h.size
  clear h haty
  go_enter Try.func46, Try.ntmps46
  go_wp2
  go_end0
  exact ⟨rfl, _, HA.out⟩

set_option maxRecDepth 100000 in
set_option maxHeartbeats 1000000 in
theorem diff_x (W1 : World) (B0 : Nat) (v : Value) (ls : List Chg) (W : World) (h : Acc W1 B0 v ls W) (bx ox : Nat) (x : Chg) (hatx : CAt bx ox x W)  (hl : ls.length ≤ 1000000000000) :
    Calls Try.prog 45 #[.pointer (some ⟨bx, ox, none⟩), .pointer none, .pointer (some ⟨B0, 0, none⟩)] W fun e W' => e = .returned (.tuple #[]) ∧ ∃ v', Acc W1 B0 v' (ls ++ [(goneC x.key)]) W' := by
  obtain ⟨i0, hi, hz0, hz1, hz2⟩ := info_ch
  have HA := Lib.hid h
  have hc := h.cell
  obtain ⟨x0, x1, x2, x3, x4, x5⟩ := id hatx
  have hsz := h.size
  have hc2 : (W.alloc (.cells #[.int .i64 x.key, .bool true, .int .u8 0, .int .i64 0, .int .u64 0, .string ⟨#[]⟩] 52)).drew.cell? ⟨B0, 0, none⟩ = some v := (both_alloc hc hatx _).1
  clear h hatx
  go_enter Try.func45, Try.ntmps45
  go_wp2
  go_region_law
    ((refine step_append_lies _ (by rfl) (.tmp 8) (.tmp 14) 23 (by rfl) W1.heap.size 52 i0 (cv noChg) 6 56 Try.underlying23 hi hz0 hz1 hz2 (by rfl) (by decide) v ls.length (fl chC ls) (by rfl) (owns_below HA.out.own (below_ad W _)) ⟨W.heap.size, 0, none⟩ 1 1 (cc (goneC x.key)) (by rfl) (by rfl) (World.news_of_block (heap_alloc_new _ _)) (cc_one (goneC x.key)) (by decide) (by unfold maxLen; omega) (by omega) (by simp; omega) _ rfl ?_; intro g cap w3 hown3 hgrow3 hat3 hlt3; obtain ⟨hwc, hwf⟩ := HA.out.ptr (below_ad W _) hgrow3))
  all_goals (go_end0; exact ⟨rfl, _, HA.out.push (below_ad W _) hgrow3 hown3⟩)

set_option maxRecDepth 100000 in
set_option maxHeartbeats 1000000 in
theorem diff_y (W1 : World) (B0 : Nat) (v : Value) (ls : List Chg) (W : World) (h : Acc W1 B0 v ls W) (b1 o1 : Nat) (y : Chg) (haty : CAt b1 o1 y W)  (hl : ls.length ≤ 1000000000000) :
    Calls Try.prog 45 #[.pointer none, .pointer (some ⟨b1, o1, none⟩), .pointer (some ⟨B0, 0, none⟩)] W fun e W' => e = .returned (.tuple #[]) ∧ ∃ v', Acc W1 B0 v' (ls ++ [y]) W' := by
  obtain ⟨i0, hi, hz0, hz1, hz2⟩ := info_ch
  have HA := Lib.hid h
  have hc := h.cell
  obtain ⟨y0, y1, y2, y3, y4, y5⟩ := id haty
  have hsz := h.size
  have hc2x : (W.alloc (.cells #[.int .i64 y.key, .bool y.g, .int .u8 y.k, .int .i64 y.n, .int .u64 y.f, .string y.s] 52)).drew.cell? ⟨B0, 0, none⟩ = some v := (both_alloc hc haty _).1
  have HATy := Lib.hid haty
  clear h haty
  go_enter Try.func45, Try.ntmps45
  go_wp2
  go_quiet (fail)
  have HA2 := Lib.hid (HA.out.drewN nq)
  have HY2 := Lib.hid (HATy.out.below (blw_drewN (Below.refl _ _) nq) HATy.out.lt)
  clear HA HATy hc y0 y1 y2 y3 y4 y5 hsz hc2x
  generalize W.drewN nq = W2 at *
  have hc := HA2.out.cell
  obtain ⟨y0, y1, y2, y3, y4, y5⟩ := id HY2.out
  have hsz2 := HA2.out.size
  have hc2 : (W2.alloc (.cells #[.int .i64 y.key, .bool y.g, .int .u8 y.k, .int .i64 y.n, .int .u64 y.f, .string y.s] 52)).drew.cell? ⟨B0, 0, none⟩ = some v := (both_alloc hc HY2.out _).1
  go_wp2
  go_region_law
    ((refine step_append_lies _ (by rfl) (.tmp 28) (.tmp 32) 23 (by rfl) W1.heap.size 52 i0 (cv noChg) 6 56 Try.underlying23 hi hz0 hz1 hz2 (by rfl) (by decide) v ls.length (fl chC ls) (by rfl) (owns_below HA2.out.own (below_ad W2 _)) ⟨W2.heap.size, 0, none⟩ 1 1 (cc y) (by rfl) (by rfl) (World.news_of_block (heap_alloc_new _ _)) (cc_one y) (by decide) (by unfold maxLen; omega) (by omega) (by simp; omega) _ rfl ?_; intro g cap w3 hown3 hgrow3 hat3 hlt3; obtain ⟨hwc, hwf⟩ := HA2.out.ptr (below_ad W2 _) hgrow3))
  all_goals (go_end0; exact ⟨rfl, _, HA2.out.push (below_ad W2 _) hgrow3 hown3⟩)

set_option maxRecDepth 100000 in
set_option maxHeartbeats 1000000 in
theorem diff_xy (W1 : World) (B0 : Nat) (v : Value) (ls : List Chg) (W : World) (h : Acc W1 B0 v ls W) (bx ox : Nat) (x : Chg) (hatx : CAt bx ox x W) (b1 o1 : Nat) (y : Chg) (haty : CAt b1 o1 y W) (hn : ¬ x = y) (hl : ls.length ≤ 1000000000000) :
    Calls Try.prog 45 #[.pointer (some ⟨bx, ox, none⟩), .pointer (some ⟨b1, o1, none⟩), .pointer (some ⟨B0, 0, none⟩)] W fun e W' => e = .returned (.tuple #[]) ∧ ∃ v', Acc W1 B0 v' (ls ++ [y]) W' := by
  obtain ⟨i0, hi, hz0, hz1, hz2⟩ := info_ch
  have HA := Lib.hid h
  have hc := h.cell
  obtain ⟨x0, x1, x2, x3, x4, x5⟩ := id hatx
  obtain ⟨y0, y1, y2, y3, y4, y5⟩ := id haty
  have hsz := h.size
  have hc2x : (W.alloc (.cells #[.int .i64 y.key, .bool y.g, .int .u8 y.k, .int .i64 y.n, .int .u64 y.f, .string y.s] 52)).drew.cell? ⟨B0, 0, none⟩ = some v := (both_alloc hc hatx _).1
  have HATy := Lib.hid haty
  have hq := fun w => chg_neq x y w
  rw [show ceq x y = false by rw [ceq_dec]; simpa using hn] at hq
  clear h hatx haty
  go_enter Try.func45, Try.ntmps45
  go_wp2
  go_quiet (fail)
  have HA2 := Lib.hid (HA.out.drewN nq)
  have HY2 := Lib.hid (HATy.out.below (blw_drewN (Below.refl _ _) nq) HATy.out.lt)
  clear HA HATy hc y0 y1 y2 y3 y4 y5 hsz hc2x x0 x1 x2 x3 x4 x5 hq
  generalize W.drewN nq = W2 at *
  have hc := HA2.out.cell
  obtain ⟨y0, y1, y2, y3, y4, y5⟩ := id HY2.out
  have hsz2 := HA2.out.size
  have hc2 : (W2.alloc (.cells #[.int .i64 y.key, .bool y.g, .int .u8 y.k, .int .i64 y.n, .int .u64 y.f, .string y.s] 52)).drew.cell? ⟨B0, 0, none⟩ = some v := (both_alloc hc HY2.out _).1
  go_wp2
  go_region_law
    ((refine step_append_lies _ (by rfl) (.tmp 28) (.tmp 32) 23 (by rfl) W1.heap.size 52 i0 (cv noChg) 6 56 Try.underlying23 hi hz0 hz1 hz2 (by rfl) (by decide) v ls.length (fl chC ls) (by rfl) (owns_below HA2.out.own (below_ad W2 _)) ⟨W2.heap.size, 0, none⟩ 1 1 (cc y) (by rfl) (by rfl) (World.news_of_block (heap_alloc_new _ _)) (cc_one y) (by decide) (by unfold maxLen; omega) (by omega) (by simp; omega) _ rfl ?_; intro g cap w3 hown3 hgrow3 hat3 hlt3; obtain ⟨hwc, hwf⟩ := HA2.out.ptr (below_ad W2 _) hgrow3))
  all_goals (go_end0; exact ⟨rfl, _, HA2.out.push (below_ad W2 _) hgrow3 hown3⟩)

set_option maxRecDepth 100000 in
set_option maxHeartbeats 1000000 in
theorem diff_same (W1 : World) (B0 : Nat) (v : Value) (ls : List Chg) (W : World) (h : Acc W1 B0 v ls W) (bx ox : Nat) (x : Chg) (hatx : CAt bx ox x W) (b1 o1 : Nat) (y : Chg) (haty : CAt b1 o1 y W) (hn : x = y) (hl : ls.length ≤ 1000000000000) :
    Calls Try.prog 45 #[.pointer (some ⟨bx, ox, none⟩), .pointer (some ⟨b1, o1, none⟩), .pointer (some ⟨B0, 0, none⟩)] W fun e W' => e = .returned (.tuple #[]) ∧ ∃ v', Acc W1 B0 v' ls W' := by
  obtain ⟨i0, hi, hz0, hz1, hz2⟩ := info_ch
  have HA := Lib.hid h
  have hc := h.cell
  obtain ⟨x0, x1, x2, x3, x4, x5⟩ := id hatx
  obtain ⟨y0, y1, y2, y3, y4, y5⟩ := id haty
  have hsz := h.size
  have hq := fun w => chg_neq x y w
  rw [show ceq x y = true by rw [ceq_dec]; simpa using hn] at hq
  clear hn
  clear h hatx haty
  go_enter Try.func45, Try.ntmps45
  go_wp2
  go_quiet (fail)
  go_wp2
  go_end0
  exact ⟨rfl, _, HA.out.drewN nq⟩
end Go.Proofs.Ytkejebjppnhidaa
