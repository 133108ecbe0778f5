
import Derived.Test.YthbehjilabedoaaA11
import Derived.Test.YthbehjilabedoaaS5
import Derived.Test.YthbehjilabedoaaS10
/- A12: Part -/
namespace Go.Proofs.Ythbehjilabedoaa
open Go.RowKit
set_option linter.unusedVariables false

/-- Is an attribute in the part? -/
def partB (ks : List Key) (blk : Bool) (a : Att) : Bool :=
  match fnd ks a.key with
  | none => false
  | some k => k.blk == blk
def part5 (ks : List Key) (blk : Bool) (xs : List Att) : List Att := xs.filter (partB ks blk)
theorem part_yes {ks : List Key} {blk : Bool} {xs : List Att} {k : Nat} (h : k < xs.length) (hb : partB ks blk xs[k] = true) : part5 ks blk (xs.take (k + 1)) = part5 ks blk (xs.take k) ++ [xs[k]] := by
  unfold part5; rw [atake_snoc h, List.filter_append]; simp [hb]
theorem part_no {ks : List Key} {blk : Bool} {xs : List Att} {k : Nat} (h : k < xs.length) (hb : partB ks blk xs[k] = false) : part5 ks blk (xs.take (k + 1)) = part5 ks blk (xs.take k) := by
  unfold part5; rw [atake_snoc h, List.filter_append]; simp [hb]
theorem part_le (ks : List Key) (blk : Bool) (xs : List Att) : (part5 ks blk xs).length ≤ xs.length := List.length_filter_le _ _
theorem part_end (ks : List Key) (blk : Bool) (xs : List Att) : part5 ks blk (xs.take xs.length) = part5 ks blk xs := by rw [List.take_of_length_le (Nat.le_refl _)]
theorem partB_none {ks : List Key} {blk : Bool} {a : Att} (h : fnd ks a.key = none) : partB ks blk a = false := by unfold partB; rw [h]
theorem partB_some {ks : List Key} {blk : Bool} {a : Att} {k : Key} (h : fnd ks a.key = some k) : partB ks blk a = (k.blk == blk) := by unfold partB; rw [h]

/-- k attributes are gone over. -/
def PartRel (w : World) (ks : List Key) (blk : Bool) (xs : List Att) (k : Nat) (v : Value) (wr : World) : Prop := Own5 w wr v (part5 ks blk (xs.take k)) ∧ Below w.heap.size w wr
theorem part_init (w : World) (ks : List Key) (blk : Bool) (xs : List Att) {W : World} (hB : Below w.heap.size w W) : PartRel w ks blk xs 0 (.slice none 0 0) W := ⟨own5_nil _ _, hB⟩
theorem part_stay {w wr w2 : World} {ks : List Key} {blk : Bool} {xs : List Att} {k : Nat} {v : Value} (h : PartRel w ks blk xs k v wr) (hb : Below wr.heap.size wr w2) (hk : k < xs.length) (hn : partB ks blk xs[k] = false) : PartRel w ks blk xs (k + 1) v w2 := by
  obtain ⟨h1, h2⟩ := h
  refine ⟨?_, below_add h2 hb h2.size⟩
  rw [part_no hk hn]
  exact owns_below h1 hb
theorem part_more {w wr w2 w3 : World} {ks : List Key} {blk : Bool} {xs : List Att} {k : Nat} {v v3 : Value} (h : PartRel w ks blk xs k v wr) (hb : Below wr.heap.size wr w2) (hk : k < xs.length) (hn : partB ks blk xs[k] = true)
    (ho : w3.ownsRow w.heap.size 28 5 v3 ((part5 ks blk (xs.take k)).length + 1) (fl attC (part5 ks blk (xs.take k)) ++ fl attC [xs[k]])) (hg : w2.grownBy w3 v.ownBlock) : PartRel w ks blk xs (k + 1) v3 w3 := by
  obtain ⟨h1, h2⟩ := h
  refine ⟨?_, (below_add h2 hb h2.size).grown hg (below_add h2 hb h2.size).size (fun j hj => own_base h1 hj)⟩
  rw [part_yes hk hn]
  unfold Own5
  rw [fl_app, List.length_append]
  exact ho

set_option maxRecDepth 100000 in
set_option maxHeartbeats 1000000 in
theorem part_any (p : Value) (ks : List Key) (v : Value) (xs : List Att) (blk : Bool) (w : World) (hs : Sch w p ks) (hv : Arow w v xs) (hW : ∀ a ∈ xs, AttW a) (hl : xs.length ≤ 1000) :
    Calls Try.prog 21 #[p, v, .bool blk] w fun e w' => ∃ u, e = .returned u ∧ Own5 w w' u (part5 ks blk xs) ∧ Below w.heap.size w w' := by
  obtain ⟨i0, hi, hz0, hz1, hz2⟩ := info_att5
  obtain ⟨a1, cap1, rfl⟩ := hv.shape
  by_cases h0 : 0 < xs.length
  · obtain ⟨b1, o1, rfl, -, -, -, hbl, hat⟩ := Arow.opn hv h0
    have HAT := Lib.hid hat
    have HS := Lib.hid hs
    have HWF := Lib.hid hW
    clear hv hs hat hW
    go_enter Try.func21, Try.ntmps21
    go_wp2
    go_loopw [7, 14] (fun s7 s14 wr => ∃ k : Nat, k ≤ xs.length ∧ s14 = .int .i64 k ∧ PartRel w ks blk xs k s7 wr) (fun _ s14 _ => xs.length - (intOf s14).toNat)
    case atStart => exact ⟨0, Nat.zero_le _, rfl, part_init w ks blk xs (Below.refl _ _)⟩
    case round =>
      obtain ⟨k, hk, rfl, hR⟩ := hrel
      by_cases hlt : k < xs.length
      · obtain ⟨c0, c1, c2, c3, c4⟩ := (HAT.out k hlt).below hR.2 hbl
        have hstay := fun w2 hb hn => part_stay (w2 := w2) hR hb hlt hn
        have hmore := fun w2 w3 v3 hb hn ho hg => part_more (w2 := w2) (w3 := w3) (v3 := v3) hR hb hlt hn ho hg
        have hwk := (HWF.out _ (List.getElem_mem hlt)).key
        have hown := hR.1
        have hpl := part_le ks blk (xs.take k)
        rw [List.length_take] at hpl
        have HF := Lib.hid (fun w1 (hb : Below w.heap.size w w1) => find_any p ks xs[k].key w1 (HS.out.below hb (Nat.le_refl _)) hwk)
        have HBW := Lib.hid hR.2
        have hsz := hR.2.size
        clear hR hwk
        have HST := Lib.hid hstay
        have HMO := Lib.hid hmore
        have HO := Lib.hid hown
        clear hstay hmore hown
        have hPN := fun (h : fnd ks xs[k].key = none) => partB_none (blk := blk) h
        have hPS := fun key (h : fnd ks xs[k].key = some key) => partB_some (blk := blk) h
        generalize xs[k] = x at *
        obtain ⟨x1, x2, x3, x4, x5⟩ := x
        simp only at c0 c1 c2 c3 c4 hPN hPS HF
        have hB1 : Below wr.heap.size wr (wr.alloc (.cells #[.int .i64 x1, .int .u8 x2, .int .i64 x3, .int .u64 x4, .string x5] 28)) := (Below.refl _ _).alloc (Nat.le_refl _) _
        have hbx := ABox.box ⟨x1, x2, x3, x4, x5⟩ wr 28
        have HF2 := Lib.hid (HF.out _ (below_add HBW.out hB1 HBW.out.size))
        clear HF
        cases hf : fnd ks x1 with
        | none =>
          have HN := Lib.hid (hPN hf)
          have HF3 := HF2.out
          rw [fndV_none hf] at HF3
          have HF4 := Lib.hid HF3
          clear HF3 HF2 hPN hPS hf hbx
          go_wp2_with (go_at_call 36; refine HF4.out.mono ?_; rintro e w1 ⟨rfl, hb1⟩)
          go_roundw
          case rel => exact ⟨k + 1, by omega, by go_num, HST.out _ ((below_add hB1 hb1 hB1.size).alloc (below_add hB1 hb1 hB1.size).size _) HN.out⟩
          case measure => simp [intOf]; omega
        | some key =>
          have HN := Lib.hid (hPS key hf)
          have HF3 := HF2.out
          rw [fndV_some hf] at HF3
          have HF4 := Lib.hid HF3
          clear HF3 HF2 hPN hPS hf
          obtain ⟨y1, y2, y3, y4, y5, y6⟩ := key
          by_cases hy : y2 = blk
          · subst hy
            have HN2 := Lib.hid (show partB ks y2 ⟨x1, x2, x3, x4, x5⟩ = true by rw [HN.out]; simp)
            clear HN
            go_wp2_with (first
              | (go_at_call 36; refine HF4.out.mono ?_; rintro e w1 ⟨rfl, hb1⟩; have hE := (below_add hB1 hb1 hB1.size).alloc (below_add hB1 hb1 hB1.size).size (.cells (kca ⟨y1, y2, y3, y4, y5, y6⟩) 57); obtain ⟨d0, d1, d2, d3, d4⟩ := (hbx.below hb1 (by simp)).below ((Below.refl _ _).alloc (Nat.le_refl _) (.cells (kca ⟨y1, y2, y3, y4, y5, y6⟩) 57)) (by have := hb1.size; simp at this; omega); have hq : w.heap.size ≤ w1.heap.size := (by have := hb1.size; simp at this; omega))
              | (at_builtin; go_loud (refine wpList_append_row (C := attC) rfl (.tmp 32) (.tmp 34) 23 rfl w.heap.size 28 i0 (av noAtt) 48 Try.underlying23 hi hz0 hz1 hz2 rfl _ _ _ rfl (owns_below HO.out (hE.alloc hE.size _)) _ [⟨x1, x2, x3, x4, x5⟩] rfl (row_new1 w1 _ ⟨x1, x2, x3, x4, x5⟩ 28) (by unfold maxLen; simp; omega) (by simp; omega) (by simp; omega) ?_); intro v3 w3 hown3 hgrow3))
            have HC := Lib.hid (HMO.out _ _ v3 (hE.alloc hE.size _) HN2.out hown3 hgrow3)
            go_roundw
            case rel => exact ⟨k + 1, by omega, by go_num, HC.out⟩
            case measure => simp [intOf]; omega
          · have HN2 := Lib.hid (show partB ks blk ⟨x1, x2, x3, x4, x5⟩ = false by rw [HN.out]; simpa using hy)
            have e1 : (y2 == blk) = false := by simpa using hy
            clear HN hy hbx
            go_wp2_with (go_at_call 36; refine HF4.out.mono ?_; rintro e w1 ⟨rfl, hb1⟩)
            go_roundw
            case rel => exact ⟨k + 1, by omega, by go_num, HST.out _ ((below_add hB1 hb1 hB1.size).alloc (below_add hB1 hb1 hB1.size).size _) HN2.out⟩
            case measure => simp [intOf]; omega
      · obtain rfl : k = xs.length := by omega
        have HR := Lib.hid hR
        clear hR
        go_wp2
        go_ret
        have h := HR.out
        unfold PartRel at h
        rw [part_end] at h
        exact ⟨_, rfl, h⟩
  · obtain rfl : xs = [] := List.eq_nil_of_length_eq_zero (by omega)
    clear hv h0 hl hs hW
    go_enter Try.func21, Try.ntmps21
    go_wp2
    refine wp_loop_rounds 1 ?_
    rw [rounds_succ]
    go_wp2
    go_ret
    exact ⟨_, rfl, own5_nil _ _, Below.refl _ _⟩
end Go.Proofs.Ythbehjilabedoaa
