
import Derived.Test.YtckdmhklnnmjpaaOL
import Derived.Test.YtckdmhklnnmjpaaA1
/- OM: variables that hold chunks; ChunkSame's walk -/
namespace Go.Proofs.Ytckdmhklnnmjpaa
open Go.RowKit
set_option linter.unusedVariables false

/-- Chunks' variables, each block with its row. -/
structure Vs (w : World) (L : List (Nat × List Int)) (W : World) : Prop where
  at_ : ∀ p ∈ L, RowAt p.1 27 p.2 W
  bel : Below w.heap.size w W
theorem Vs.none (w : World) : Vs w [] w := ⟨by simp, Below.refl _ _⟩
theorem Vs.below {w W W' : World} {L : List (Nat × List Int)} (h : Vs w L W) (hb : Below W.heap.size W W') : Vs w L W' := ⟨fun p hp => (h.at_ p hp).below hb, below_add h.bel hb h.bel.size⟩
theorem Vs.new {w W : World} {L : List (Nat × List Int)} (h : Vs w L W) (xs : List Int) : Vs w ((W.heap.size, xs) :: L) ((W.alloc (.cells (row zero32) 27)).setRow W.heap.size (row xs)) := by
  refine ⟨fun p hp => ?_, (var_new xs h.bel).bel⟩
  rcases List.mem_cons.1 hp with rfl | hp
  · exact (var_new xs h.bel).c
  · have := (h.at_ p hp).lt
    exact ((h.at_ p hp).alloc _).setRow_other (by omega) _
theorem Vs.two {w W : World} {L : List (Nat × List Int)} (h : Vs w L W) (ya yb : List Int) : Vs w ((W.heap.size, ya) :: (W.heap.size + 1, yb) :: L)
    ((((W.alloc (.cells (row zero32) 27)).alloc (.cells (row zero32) 27)).setRow W.heap.size (row ya)).setRow (W.heap.size + 1) (row yb)) := by
  have k := var_two (g := W.heap.size) (xs := zero32) (w := w) (W := W.alloc (.cells (row zero32) 27)) ⟨rowAt_new W _ _, h.bel.alloc h.bel.size _⟩ ya yb
  have hs := h.bel.size
  refine ⟨fun p hp => ?_, below_setRow (below_setRow ((h.bel.alloc hs _).alloc (by simp; omega) _) hs _) (by omega) _⟩
  rcases List.mem_cons.1 hp with rfl | hp
  · exact (((rowAt_new W _ _).alloc _).setRow).setRow_other (by omega) _
  · rcases List.mem_cons.1 hp with rfl | hp
    · have := rowAt_new (W.alloc (.cells (row zero32) 27)) 27 zero32
      have h2 : RowAt (W.heap.size + 1) 27 zero32 ((W.alloc (.cells (row zero32) 27)).alloc (.cells (row zero32) 27)) := by simpa using this
      exact (h2.setRow_other (by omega) _).setRow
    · have := (h.at_ p hp).lt
      exact ((((h.at_ p hp).alloc _).alloc _).setRow_other (by omega) _).setRow_other (by omega) _
theorem two_rows {W : World} (ya : List Int) :
    RowAt W.heap.size 27 zero32 ((W.alloc (.cells (row zero32) 27)).alloc (.cells (row zero32) 27)) ∧
    RowAt (W.heap.size + 1) 27 zero32 (((W.alloc (.cells (row zero32) 27)).alloc (.cells (row zero32) 27)).setRow W.heap.size (row ya)) := by
  refine ⟨(rowAt_new W _ _).alloc _, ?_⟩
  have := rowAt_new (W.alloc (.cells (row zero32) 27)) 27 zero32
  have h2 : RowAt (W.heap.size + 1) 27 zero32 ((W.alloc (.cells (row zero32) 27)).alloc (.cells (row zero32) 27)) := by simpa using this
  exact h2.setRow_other (by omega) _

theorem len_ofL (l : List Int) : (slots (ofL l)).length = 32 := slots_len (chunky_ofL l).1

/-- Too long a list: the known case is asked. -/
theorem same_long (v1 v2 : Value) (l m : List Int) (w : World) (h1 : Ints .i32 w v1 l) (h2 : Ints .i32 w v2 m) (hl : 1000 < l.length ∨ 1000 < m.length) :
    Calls Try.prog 6 #[v1, v2] w fun e w' => e = .returned (.bool true) ∧ Below w.heap.size w w' := by
  obtain ⟨a1, c1, rfl⟩ := h1.shape
  obtain ⟨a2, c2, rfl⟩ := h2.shape
  have l1 := h1.len
  have l2 := h2.len
  have HK := Lib.hid (fun w => known9_any w)
  clear h1 h2
  by_cases hl1 : 1000 < l.length
  · have g0 : (1000 : Int) < l.length := by omega
    clear hl hl1
    go_enter Try.func6, Try.ntmps6
    go_wp2_with (go_at_call 9; refine (HK.out _).mono ?_; rintro e w1 ⟨rfl, b1⟩)
    go_ret
    exact ⟨rfl, b1⟩
  · have g0 : ¬ (1000 : Int) < l.length := by omega
    have g1 : (1000 : Int) < m.length := by omega
    clear hl hl1
    go_enter Try.func6, Try.ntmps6
    go_wp2_with (go_at_call 9; refine (HK.out _).mono ?_; rintro e w1 ⟨rfl, b1⟩)
    go_ret
    exact ⟨rfl, b1⟩

set_option maxRecDepth 100000 in
theorem same_none (v1 v2 : Value) (l m : List Int) (w : World) (h1 : Ints .i32 w v1 l) (h2 : Ints .i32 w v2 m) (hl : l.length ≤ 1000) (hm : m.length ≤ 1000) (he : ofE l ≠ 0 ∨ ofE m ≠ 0) :
    Calls Try.prog 6 #[v1, v2] w fun e w' => e = .returned (.bool true) ∧ Below w.heap.size w w' := by
  have H2 := Lib.hid h2
  have HO1 := Lib.hid (of_any v1 l w h1)
  have HO2 := Lib.hid (fun v w h => of_any v m w h)
  have LX := Lib.hid (len_ofL l)
  have LY := Lib.hid (len_ofL m)
  have HK := Lib.hid (fun w => known9_any w)
  obtain ⟨a1, c1, rfl⟩ := h1.shape
  obtain ⟨a2, c2, rfl⟩ := h2.shape
  unfold ofV cv at HO1 HO2
  have g0 : ¬ (1000 : Int) < l.length := by omega
  have g1 : ¬ (1000 : Int) < m.length := by omega
  obtain ⟨xs, hxs⟩ : ∃ xs, slots (ofL l) = xs := ⟨_, rfl⟩
  obtain ⟨ys, hys⟩ : ∃ ys, slots (ofL m) = ys := ⟨_, rfl⟩
  obtain ⟨e, hee⟩ : ∃ e, ofE l = e := ⟨_, rfl⟩
  obtain ⟨f, hff⟩ : ∃ f, ofE m = f := ⟨_, rfl⟩
  rw [hxs, hee] at HO1
  rw [hys, hff] at HO2
  rw [hxs] at LX
  rw [hys] at LY
  rw [hee, hff] at he
  clear hxs hys hee hff h1 h2
  obtain ⟨be, hbe⟩ : ∃ b, (e == 0) = b := ⟨_, rfl⟩
  obtain ⟨bf, hbf⟩ : ∃ b, (f == 0) = b := ⟨_, rfl⟩
  have hbe' : (e != 0) = !be := by simp [bne, hbe]
  have hbf' : (f != 0) = !bf := by simp [bne, hbf]
  have hor : be = false ∨ bf = false := by
    rcases he with h | h
    · left; rw [← hbe]; simp [h]
    · right; rw [← hbf]; simp [h]
  clear he
  cases be <;> cases bf <;> first
    | (rcases hor with h | h <;> cases h; done)
    | (clear hor
       go_enter Try.func6, Try.ntmps6
       go_wp2_with (first
         | (go_at_call 10; refine HO1.out.mono ?_; rintro e1 w1 ⟨rfl, b1⟩; have K1 := Lib.hid ((Vs.none w).below b1); have H3 := Lib.hid (H2.out.below b1); clear b1 H2 HO1; refine Hid.out ?_))
       refine Lib.hid ?_
       go_wp2_with (first
         | (refine wpList_store_row rfl 27 (.tmp 5) (.tmp 23) rfl w1.heap.size (row xs) rfl rfl _ _ (rowAt_new w1 _ zero32) (info_chunk32 _ LX.out) (by rw [row_size, row_size, LX.out]; rfl) (row_one _) ?_; refine with_worldL (fun W => Vs w [(w1.heap.size, xs)] W ∧ Ints .i32 W (.slice a2 m.length c2) m) ⟨K1.out.new xs, H3.out.below (var_new xs (Below.refl _ w1)).bel⟩ fun W2 hW => ?_; have K2 := Lib.hid hW.1; have H4 := Lib.hid hW.2; clear hW K1 H3; refine Hid.out ?_))
       refine Lib.hid ?_
       go_wp2_with (first
         | (go_at_call 10; refine (HO2.out _ _ H4.out).mono ?_; rintro e2 w3 ⟨rfl, b3⟩; have K3 := Lib.hid (K2.out.below b3); clear b3 H4 HO2 K2; refine Hid.out ?_))
       refine Lib.hid ?_
       go_wp2_with (first
         | (refine wpList_store_row rfl 27 (.tmp 7) (.tmp 28) rfl w3.heap.size (row ys) rfl rfl _ _ (rowAt_new w3 _ zero32) (info_chunk32 _ LY.out) (by rw [row_size, row_size, LY.out]; rfl) (row_one _) ?_; refine with_worldL (Vs w [(w3.heap.size, ys), (w1.heap.size, xs)]) (K3.out.new ys) fun W4 hW => ?_; have K4 := Lib.hid hW; clear hW K3; refine Hid.out ?_))
       refine Lib.hid ?_
       go_wp2_with (go_at_call 9; refine (HK.out _).mono ?_; rintro e w5 ⟨rfl, b5⟩)
       go_ret
       exact ⟨rfl, (K4.out.below b5).bel⟩)
end Go.Proofs.Ytckdmhklnnmjpaa
