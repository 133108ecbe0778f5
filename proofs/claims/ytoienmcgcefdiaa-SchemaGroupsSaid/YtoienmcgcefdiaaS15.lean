
import Derived.Test.YtoienmcgcefdiaaS14
import Derived.Test.YtoienmcgcefdiaaS10
/- S17: SchemaNone -/
namespace Go.Proofs.Ytoienmcgcefdiaa
open Go.RowKit
set_option linter.unusedVariables false

theorem keys_empty (p : Value) (w : World) (hs : Sch w p []) :
    Calls Try.prog 12 #[p] w fun e w' => ∃ a cap, e = .returned (.slice a 0 cap) ∧ Below w.heap.size w w' :=
  (keys_any p [] w hs).mono fun e w' ⟨v, he, ho, hb⟩ => by
    rw [rising_nil] at ho
    obtain ⟨a, cap, rfl⟩ := (Krow.of_owns ho).1.shape
    exact ⟨a, cap, he, hb⟩
theorem group_empty (p : Value) (id : Int) (w : World) (hs : Sch w p []) (hw : (Lit.int .i64 id).wf = true) :
    Calls Try.prog 15 #[p, .int .i64 id] w fun e w' => ∃ a cap, e = .returned (.slice a 0 cap) ∧ Below w.heap.size w w' :=
  (group_any p [] id w hs hw).mono fun e w' ⟨v, he, ho, hb⟩ => by
    rw [grpOf_nil] at ho
    obtain ⟨a, cap, rfl⟩ := (Ints.of_owns (k := .i64) (xs := []) ho).1.shape
    exact ⟨a, cap, he, hb⟩
theorem find_empty (p : Value) (id : Int) (w : World) (hs : Sch w p []) (hw : (Lit.int .i64 id).wf = true) :
    Calls Try.prog 13 #[p, .int .i64 id] w fun e w' => e = .returned (.tuple #[kv noKey, .bool false]) ∧ Below w.heap.size w w' := find_any p [] id w hs hw
theorem fits_empty (p : Value) (id k n f : Int) (s : ByteArray) (w : World) (hs : Sch w p []) (hw : (Lit.int .i64 id).wf = true) (h0 : 0 ≤ f) (h1 : f < 18446744073709551616) :
    Calls Try.prog 17 #[p, .int .i64 id, val k n f s] w fun e w' => e = .returned (.bool false) ∧ Below w.heap.size w w' := fits_any p [] id k n f s w hs hw h0 h1
theorem len_empty (p : Value) (w : World) (hs : Sch w p []) : Calls Try.prog 10 #[p] w fun e w' => e = .returned (.int .i64 0) ∧ w = w' := len_any p [] w hs

/-- The world ahead of the loop: a value, a zero schema, a row of none and of the zero one. -/
theorem none_init (k n f : Int) (s : ByteArray) (w : World) (t1 t2 t3 : TypeId) {W : World} (hW : ((w.alloc (.cells (vcells k n f s) t1)).alloc (.cells #[.map none] t2)).alloc (.cells #[.pointer none, .pointer (some ⟨w.heap.size + 1, 0, none⟩)] t3) = W) :
    At w.heap.size k n f s W ∧ W.cell? ⟨w.heap.size + 1, 0, none⟩ = some (.map none) ∧ W.cell? ⟨w.heap.size + 1 + 1, 0, none⟩ = some (.pointer none) ∧ W.cell? ⟨w.heap.size + 1 + 1, 1, none⟩ = some (.pointer (some ⟨w.heap.size + 1, 0, none⟩)) ∧ Below w.heap.size w W := by
  subst hW
  have h1 := heap_alloc_new (w.alloc (.cells (vcells k n f s) t1)) (.cells #[.map none] t2)
  simp only [World.size_alloc] at h1
  have h2 := heap_alloc_new ((w.alloc (.cells (vcells k n f s) t1)).alloc (.cells #[.map none] t2)) (.cells #[.pointer none, .pointer (some ⟨w.heap.size + 1, 0, none⟩)] t3)
  simp only [World.size_alloc] at h2
  refine ⟨(At.box k n f s w t1).below (kbelow_two _ _ _), ?_, ?_, ?_, (kbelow_two w _ _).alloc (by simp; omega) _⟩
  · refine cell_on ?_ _
    rw [cell_of_row _ (w.heap.size + 1) 0 _ _ (0, 0) h1]; rfl
  · rw [cell_of_row _ (w.heap.size + 1 + 1) 0 _ _ (0, 0) h2]; rfl
  · rw [cell_of_row _ (w.heap.size + 1 + 1) 1 _ _ (0, 0) h2]; rfl

set_option maxRecDepth 100000 in
set_option maxHeartbeats 1000000 in
theorem none_walk (id k n f : Int) (s : ByteArray) (w : World) (hw : (Lit.int .i64 id).wf = true) (h0 : 0 ≤ f) (h1 : f < 18446744073709551616) :
    Calls Try.prog 5 #[.int .i64 id, val k n f s] w fun e w' => e = .returned (.bool true) ∧ Below w.heap.size w w' := by
  have HKN := Lib.hid (fun w => skn_any w)
  have HFT := Lib.hid (fun p w hs => fits_empty p id k n f s w hs hw h0 h1)
  have HGR := Lib.hid (fun p w hs => group_empty p id w hs hw)
  have HFD := Lib.hid (fun p w hs => find_empty p id w hs hw)
  clear h0 h1
  go_enter Try.func5, Try.ntmps5
  go_wp2
  generalize hW : ((w.alloc (.cells #[.int .u8 k, .int .i64 n, .int .u64 f, .string s] 25)).alloc (.cells #[.map none] 48)).alloc (.cells #[.pointer none, .pointer (some ⟨w.heap.size + 1, 0, none⟩)] 27) = W
  obtain ⟨hA, hz, hp0, hp1, hB⟩ := none_init k n f s w _ _ _ hW
  clear hW
  generalize w.heap.size + 1 = B1 at *
  generalize B1 + 1 = B2 at *
  have hz0 : Sch W (.pointer none) [] := ⟨good_nil, .inl ⟨rfl, rfl⟩⟩
  have hz1 : Sch W (.pointer (some ⟨B1, 0, none⟩)) [] := ⟨good_nil, .inr (.inl ⟨_, rfl, hz, rfl⟩)⟩
  go_loopw [14] (fun i wr => ∃ j : Nat, j ≤ 2 ∧ i = .int .i64 j ∧ Below W.heap.size W wr) (fun i _ => 2 - (intOf i).toNat)
  case atStart => exact ⟨0, by omega, rfl, Below.refl _ _⟩
  case round =>
    obtain ⟨j, hj, rfl, hE⟩ := hrel
    by_cases hlt : j < 2
    · by_cases hj0 : j = 0
      · subst hj0
        have c0 := (hE.cell (p := ⟨B2, 0, none⟩) (World.block_lt_of_cell? _ _ hp0)).trans hp0
        have hS := hz0
        clear hp0 hp1 hz hz0 hz1
        go_wp2_with (first
          | (go_at_call 13; ((with_reducible refine (HFD.out (.pointer none) _ (hS.below hE (Nat.le_refl _))).mono ?_); rintro e w1 ⟨rfl, hb1⟩; have hE1 := (below_add hE hb1 hE.size).alloc (below_add hE hb1 hE.size).size (.cells zc 32); clear hb1 hE))
          | (go_at_call 10; ((with_reducible refine (len_empty (.pointer none) _ (hS.below hE1 (Nat.le_refl _))).mono ?_); rintro e w' ⟨rfl, rfl⟩))
          | (go_at_call 12; ((with_reducible refine (keys_empty (.pointer none) _ (hS.below hE1 (Nat.le_refl _))).mono ?_); rintro e w2 ⟨a2, cap2, rfl, hb2⟩; have hE2 := below_add hE1 hb2 hE1.size; clear hb2 hE1))
          | (go_at_call 15; ((with_reducible refine (HGR.out (.pointer none) _ (hS.below hE2 (Nat.le_refl _))).mono ?_); rintro e w3 ⟨a3, cap3, rfl, hb3⟩; have hE3 := below_add hE2 hb3 hE2.size; obtain ⟨v0, v1, v2, v3⟩ := hA.below hE3; clear hb3 hE2))
          | (go_at_call 17; ((with_reducible refine (HFT.out (.pointer none) _ (hS.below hE3 (Nat.le_refl _))).mono ?_); rintro e w4 ⟨rfl, hb4⟩; have hE4 := below_add hE3 hb4 hE3.size; clear hb4 hE3)))
        go_roundw
        case rel => exact ⟨1, by omega, by first | rfl | go_num, hE4⟩
        case measure => simp [intOf]
      · obtain rfl : j = 1 := by omega
        have c0 := (hE.cell (p := ⟨B2, 1, none⟩) (World.block_lt_of_cell? _ _ hp1)).trans hp1
        have hS := hz1
        clear hp0 hp1 hz hz0 hz1 hj0
        go_wp2_with (first
          | (go_at_call 13; ((with_reducible refine (HFD.out (.pointer (some ⟨B1, 0, none⟩)) _ (hS.below hE (Nat.le_refl _))).mono ?_); rintro e w1 ⟨rfl, hb1⟩; have hE1 := (below_add hE hb1 hE.size).alloc (below_add hE hb1 hE.size).size (.cells zc 32); clear hb1 hE))
          | (go_at_call 10; ((with_reducible refine (len_empty (.pointer (some ⟨B1, 0, none⟩)) _ (hS.below hE1 (Nat.le_refl _))).mono ?_); rintro e w' ⟨rfl, rfl⟩))
          | (go_at_call 12; ((with_reducible refine (keys_empty (.pointer (some ⟨B1, 0, none⟩)) _ (hS.below hE1 (Nat.le_refl _))).mono ?_); rintro e w2 ⟨a2, cap2, rfl, hb2⟩; have hE2 := below_add hE1 hb2 hE1.size; clear hb2 hE1))
          | (go_at_call 15; ((with_reducible refine (HGR.out (.pointer (some ⟨B1, 0, none⟩)) _ (hS.below hE2 (Nat.le_refl _))).mono ?_); rintro e w3 ⟨a3, cap3, rfl, hb3⟩; have hE3 := below_add hE2 hb3 hE2.size; obtain ⟨v0, v1, v2, v3⟩ := hA.below hE3; clear hb3 hE2))
          | (go_at_call 17; ((with_reducible refine (HFT.out (.pointer (some ⟨B1, 0, none⟩)) _ (hS.below hE3 (Nat.le_refl _))).mono ?_); rintro e w4 ⟨rfl, hb4⟩; have hE4 := below_add hE3 hb4 hE3.size; clear hb4 hE3)))
        go_roundw
        case rel => exact ⟨2, by omega, by first | rfl | go_num, hE4⟩
        case measure => simp [intOf]
    · obtain rfl : j = 2 := by omega
      go_wp2_with (go_at_call 7; refine (HKN.out _).mono ?_; rintro e w' ⟨rfl, hb⟩)
      go_ret
      exact ⟨rfl, below_add (below_add hB hE hB.size) hb (below_add hB hE hB.size).size⟩
end Go.Proofs.Ytoienmcgcefdiaa
