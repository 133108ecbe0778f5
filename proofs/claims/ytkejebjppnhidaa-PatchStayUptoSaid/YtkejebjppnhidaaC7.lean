
import Derived.Test.YtkejebjppnhidaaC6
import Derived.Test.YtkejebjppnhidaaS5
import Derived.Test.YtkejebjppnhidaaS10
/- C7: Part, and the reference's -/
namespace Go.Proofs.Ytkejebjppnhidaa
open Go.RowKit
set_option linter.unusedVariables false

/-- Is an attribute in the part? -/
def partC (ks : List Key) (blk : Bool) (a : Chg) : Bool :=
  match fnd ks a.key with
  | none => false
  | some k => k.blk == blk
def part6 (ks : List Key) (blk : Bool) (xs : List Chg) : List Chg := xs.filter (partC ks blk)
theorem cpart_yes {ks : List Key} {blk : Bool} {xs : List Chg} {k : Nat} (h : k < xs.length) (hb : partC ks blk xs[k] = true) : part6 ks blk (xs.take (k + 1)) = part6 ks blk (xs.take k) ++ [xs[k]] := by
  unfold part6; rw [tsnoc h, List.filter_append]; simp [hb]
theorem cpart_no {ks : List Key} {blk : Bool} {xs : List Chg} {k : Nat} (h : k < xs.length) (hb : partC ks blk xs[k] = false) : part6 ks blk (xs.take (k + 1)) = part6 ks blk (xs.take k) := by
  unfold part6; rw [tsnoc h, List.filter_append]; simp [hb]
theorem cpart_le (ks : List Key) (blk : Bool) (xs : List Chg) : (part6 ks blk xs).length ≤ xs.length := List.length_filter_le _ _
theorem cpart_end (ks : List Key) (blk : Bool) (xs : List Chg) : part6 ks blk (xs.take xs.length) = part6 ks blk xs := by rw [List.take_of_length_le (Nat.le_refl _)]
theorem partC_none {ks : List Key} {blk : Bool} {a : Chg} (h : fnd ks a.key = none) : partC ks blk a = false := by unfold partC; rw [h]
theorem partC_some {ks : List Key} {blk : Bool} {a : Chg} {k : Key} (h : fnd ks a.key = some k) : partC ks blk a = (k.blk == blk) := by unfold partC; rw [h]

/-- k attributes are gone over. -/
def PartRelC (w : World) (ks : List Key) (blk : Bool) (xs : List Chg) (k : Nat) (v : Value) (wr : World) : Prop := Own6 w wr v (part6 ks blk (xs.take k)) ∧ Below w.heap.size w wr
theorem cpart_init (w : World) (ks : List Key) (blk : Bool) (xs : List Chg) {W : World} (hB : Below w.heap.size w W) : PartRelC w ks blk xs 0 (.slice none 0 0) W := ⟨own6_nil _ _, hB⟩
theorem cpart_stay {w wr w2 : World} {ks : List Key} {blk : Bool} {xs : List Chg} {k : Nat} {v : Value} (h : PartRelC w ks blk xs k v wr) (hb : Below wr.heap.size wr w2) (hk : k < xs.length) (hn : partC ks blk xs[k] = false) : PartRelC w ks blk xs (k + 1) v w2 := by
  obtain ⟨h1, h2⟩ := h
  refine ⟨?_, below_add h2 hb h2.size⟩
  rw [cpart_no hk hn]
  exact owns_below h1 hb
theorem cpart_more {w wr w2 w3 : World} {ks : List Key} {blk : Bool} {xs : List Chg} {k : Nat} {v v3 : Value} (h : PartRelC w ks blk xs k v wr) (hb : Below wr.heap.size wr w2) (hk : k < xs.length) (hn : partC ks blk xs[k] = true)
    (ho : w3.ownsRow w.heap.size 52 6 v3 ((part6 ks blk (xs.take k)).length + 1) (fl chC (part6 ks blk (xs.take k)) ++ fl chC [xs[k]])) (hg : w2.grownBy w3 v.ownBlock) : PartRelC w ks blk xs (k + 1) v3 w3 := by
  obtain ⟨h1, h2⟩ := h
  refine ⟨?_, (below_add h2 hb h2.size).grown hg (below_add h2 hb h2.size).size (fun j hj => own_base h1 hj)⟩
  rw [cpart_yes hk hn]
  unfold Own6
  rw [fl_app, List.length_append]
  exact ho

set_option maxRecDepth 100000 in
set_option maxHeartbeats 1000000 in
theorem part_any6 (p : Value) (ks : List Key) (v : Value) (xs : List Chg) (blk : Bool) (w : World) (hs : Sch w p ks) (hv : Crow w v xs) (hW : ∀ a ∈ xs, ChgW a) (hl : xs.length * 56 ≤ 140737488355328) :
    Calls Try.prog 18 #[p, v, .bool blk] w fun e w' => ∃ u, e = .returned u ∧ Own6 w w' u (part6 ks blk xs) ∧ Below w.heap.size w w' := by
  obtain ⟨i0, hi, hz0, hz1, hz2⟩ := info_ch
  obtain ⟨a1, cap1, rfl⟩ := hv.shape
  by_cases h0 : 0 < xs.length
  · obtain ⟨b1, o1, rfl, -, -, -, hbl, hat⟩ := Crow.opn hv h0
    have HAT := Lib.hid hat
    have HS := Lib.hid hs
    have HWF := Lib.hid hW
    clear hv hs hat hW
    go_enter Try.func18, Try.ntmps18
    go_wp2
    go_loopw [7, 14] (fun s7 s14 wr => ∃ k : Nat, k ≤ xs.length ∧ s14 = .int .i64 k ∧ PartRelC w ks blk xs k s7 wr) (fun _ s14 _ => xs.length - (intOf s14).toNat)
    case atStart => exact ⟨0, Nat.zero_le _, rfl, cpart_init w ks blk xs (Below.refl _ _)⟩
    case round =>
      obtain ⟨k, hk, rfl, hR⟩ := hrel
      by_cases hlt : k < xs.length
      · obtain ⟨c0, c1, c2, c3, c4, c5⟩ := (HAT.out k hlt).below hR.2 hbl
        have hstay := fun w2 hb hn => cpart_stay (w2 := w2) hR hb hlt hn
        have hmore := fun w2 w3 v3 hb hn ho hg => cpart_more (w2 := w2) (w3 := w3) (v3 := v3) hR hb hlt hn ho hg
        have hwk := (HWF.out _ (List.getElem_mem hlt)).key
        have hown := hR.1
        have hpl := cpart_le ks blk (xs.take k)
        rw [List.length_take] at hpl
        have HF := Lib.hid (fun w1 (hb : Below w.heap.size w w1) => find_any p ks xs[k].key w1 (HS.out.below hb (Nat.le_refl _)) hwk)
        have HBW := Lib.hid hR.2
        have hsz := hR.2.size
        clear hR hwk
        have HST := Lib.hid hstay
        have HMO := Lib.hid hmore
        have HO := Lib.hid hown
        clear hstay hmore hown
        have hPN := fun (h : fnd ks xs[k].key = none) => partC_none (blk := blk) h
        have hPS := fun key (h : fnd ks xs[k].key = some key) => partC_some (blk := blk) h
        generalize xs[k] = x at *
        obtain ⟨x1, x0, x2, x3, x4, x5⟩ := x
        simp only at c0 c1 c2 c3 c4 c5 hPN hPS HF
        have hB1 : Below wr.heap.size wr (wr.alloc (.cells #[.int .i64 x1, .bool x0, .int .u8 x2, .int .i64 x3, .int .u64 x4, .string x5] 52)) := (Below.refl _ _).alloc (Nat.le_refl _) _
        have hbx := CBox.box ⟨x1, x0, x2, x3, x4, x5⟩ wr 52
        have HF2 := Lib.hid (HF.out _ (below_add HBW.out hB1 HBW.out.size))
        clear HF
        cases hf : fnd ks x1 with
        | none =>
          have HN := Lib.hid (hPN hf)
          have HF3 := HF2.out
          rw [fndV_none hf] at HF3
          have HF4 := Lib.hid HF3
          clear HF3 HF2 hPN hPS hf hbx
          go_wp2_with (go_at_call 36; refine HF4.out.mono ?_; rintro e w1 ⟨rfl, hb1⟩)
          go_roundw
          case rel => exact ⟨k + 1, by omega, by go_num, HST.out _ ((below_add hB1 hb1 hB1.size).alloc (below_add hB1 hb1 hB1.size).size _) HN.out⟩
          case measure => simp [intOf]; omega
        | some key =>
          have HN := Lib.hid (hPS key hf)
          have HF3 := HF2.out
          rw [fndV_some hf] at HF3
          have HF4 := Lib.hid HF3
          clear HF3 HF2 hPN hPS hf
          obtain ⟨y1, y2, y3, y4, y5, y6⟩ := key
          by_cases hy : y2 = blk
          · subst hy
            have HN2 := Lib.hid (show partC ks y2 ⟨x1, x0, x2, x3, x4, x5⟩ = true by rw [HN.out]; simp)
            clear HN
            go_wp2_with (first
              | (go_at_call 36; refine HF4.out.mono ?_; rintro e w1 ⟨rfl, hb1⟩; have hE := (below_add hB1 hb1 hB1.size).alloc (below_add hB1 hb1 hB1.size).size (.cells (kca ⟨y1, y2, y3, y4, y5, y6⟩) 70); obtain ⟨d0, d1, d2, d3, d4, d5⟩ := (hbx.below hb1 (by simp)).below ((Below.refl _ _).alloc (Nat.le_refl _) (.cells (kca ⟨y1, y2, y3, y4, y5, y6⟩) 70)) (by have := hb1.size; simp at this; omega); have hq : w.heap.size ≤ w1.heap.size := (by have := hb1.size; simp at this; omega))
              | (at_builtin; go_loud (refine wpList_append_row (C := chC) rfl (.tmp 32) (.tmp 34) 23 rfl w.heap.size 52 i0 (cv noChg) 56 Try.underlying23 hi hz0 hz1 hz2 rfl _ _ _ rfl (owns_below HO.out (hE.alloc hE.size _)) _ [⟨x1, x0, x2, x3, x4, x5⟩] rfl (crow_new1 w1 _ ⟨x1, x0, x2, x3, x4, x5⟩ 52) (by unfold maxLen; simp; omega) (by simp; omega) (by simp; omega) ?_); intro v3 w3 hown3 hgrow3))
            have HC := Lib.hid (HMO.out _ _ v3 (hE.alloc hE.size _) HN2.out hown3 hgrow3)
            go_roundw
            case rel => exact ⟨k + 1, by omega, by go_num, HC.out⟩
            case measure => simp [intOf]; omega
          · have HN2 := Lib.hid (show partC ks blk ⟨x1, x0, x2, x3, x4, x5⟩ = false by rw [HN.out]; simpa using hy)
            have e1 : (y2 == blk) = false := by simpa using hy
            clear HN hy hbx
            go_wp2_with (go_at_call 36; refine HF4.out.mono ?_; rintro e w1 ⟨rfl, hb1⟩)
            go_roundw
            case rel => exact ⟨k + 1, by omega, by go_num, HST.out _ ((below_add hB1 hb1 hB1.size).alloc (below_add hB1 hb1 hB1.size).size _) HN2.out⟩
            case measure => simp [intOf]; omega
      · obtain rfl : k = xs.length := by omega
        have HR := Lib.hid hR
        clear hR
        go_wp2
        go_ret
        have h := HR.out
        unfold PartRelC at h
        rw [cpart_end] at h
        exact ⟨_, rfl, h⟩
  · obtain rfl : xs = [] := List.eq_nil_of_length_eq_zero (by omega)
    clear hv h0 hl hs hW
    go_enter Try.func18, Try.ntmps18
    go_wp2
    refine wp_loop_rounds 1 ?_
    rw [rounds_succ]
    go_wp2
    go_ret
    exact ⟨_, rfl, own6_nil _ _, Below.refl _ _⟩
set_option maxRecDepth 100000 in
set_option maxHeartbeats 1000000 in
theorem rpart_any6 (p : Value) (ks : List Key) (v : Value) (xs : List Chg) (blk : Bool) (w : World) (hs : Krow w p ks) (hv : Crow w v xs) (hl : xs.length * 56 ≤ 140737488355328) :
    Calls Try.prog 20 #[p, v, .bool blk] w fun e w' => ∃ u, e = .returned u ∧ Own6 w w' u (part6 ks blk xs) ∧ Below w.heap.size w w' := by
  obtain ⟨i0, hi, hz0, hz1, hz2⟩ := info_ch
  obtain ⟨a1, cap1, rfl⟩ := hv.shape
  by_cases h0 : 0 < xs.length
  · obtain ⟨b1, o1, rfl, -, -, -, hbl, hat⟩ := Crow.opn hv h0
    have HAT := Lib.hid hat
    have HS := Lib.hid hs
    clear hv hs hat
    go_enter Try.func20, Try.ntmps20
    go_wp2
    go_loopw [7, 8] (fun s7 s8 wr => ∃ k : Nat, k ≤ xs.length ∧ s8 = .int .i64 k ∧ Grows6 w (part6 ks blk (xs.take k)) s7 wr) (fun _ s8 _ => xs.length - (intOf s8).toNat)
    case atStart => exact ⟨0, Nat.zero_le _, rfl, own6_nil _ _, Below.refl _ _⟩
    case round =>
      obtain ⟨k, hk, rfl, hR⟩ := hrel
      by_cases hlt : k < xs.length
      · have hAT := (HAT.out k hlt).below hR.2 hbl
        have hY := fun h => cpart_yes (ks := ks) (blk := blk) hlt h
        have hN := fun h => cpart_no (ks := ks) (blk := blk) hlt h
        have hpl := cpart_le ks blk (xs.take k)
        rw [List.length_take] at hpl
        have hsz := hR.2.size
        have hblr : b1 < wr.heap.size := by omega
        have HF := Lib.hid (rfind_any p ks xs[k].key wr (HS.out.below hR.2 (Nat.le_refl _)))
        have HR := Lib.hid hR
        clear hR
        have hPN := fun (h : fnd ks xs[k].key = none) => partC_none (blk := blk) h
        have hPS := fun key (h : fnd ks xs[k].key = some key) => partC_some (blk := blk) h
        generalize xs[k] = x at *
        have HT := Lib.hid hAT
        obtain ⟨c0, c1, c2, c3, c4, c5⟩ := hAT
        obtain ⟨x1, x0, x2, x3, x4, x5⟩ := x
        simp only at c0 c1 c2 c3 c4 c5 hPN hPS HF
        cases hf : fnd ks x1 with
        | none =>
          have HN := Lib.hid (hN (hPN hf))
          have HF3 := HF.out
          rw [fndV_none hf] at HF3
          have HF4 := Lib.hid HF3
          clear HF3 HF hPN hPS hf hY hN
          go_wp2_with (go_at_call 38; refine HF4.out.mono ?_; rintro e w1 ⟨rfl, hb1⟩)
          go_roundw
          case rel => exact ⟨k + 1, by omega, by go_num, by rw [HN.out]; exact grows6_stay HR.out (hb1.alloc hb1.size _)⟩
          case measure => simp [intOf]; omega
        | some key =>
          have HF3 := HF.out
          rw [fndV_some hf] at HF3
          have HF4 := Lib.hid HF3
          have hPK := hPS key hf
          clear HF3 HF hPN hPS hf
          obtain ⟨y1, y2, y3, y4, y5, y6⟩ := key
          simp only at hPK
          by_cases hy : y2 = blk
          · subst hy
            have HN2 := Lib.hid (hY (by rw [hPK]; simp))
            clear hPK hY hN
            go_wp2_with (first
              | (go_at_call 38; refine HF4.out.mono ?_; rintro e w1 ⟨rfl, hb1⟩; have hE := hb1.alloc hb1.size (.cells (kca ⟨y1, y2, y3, y4, y5, y6⟩) 70); obtain ⟨d0, d1, d2, d3, d4, d5⟩ := HT.out.below hE hblr; have hq : w.heap.size ≤ w1.heap.size := (by have := hb1.size; omega))
              | (at_builtin; refine wpList_append_row (C := chC) rfl (.tmp 34) (.tmp 39) 23 rfl w.heap.size 52 i0 (cv noChg) 56 Try.underlying23 hi hz0 hz1 hz2 rfl _ _ _ rfl (owns_below HR.out.1 (hE.alloc hE.size _)) _ [⟨x1, x0, x2, x3, x4, x5⟩] rfl (crow_new1 w1 _ ⟨x1, x0, x2, x3, x4, x5⟩ 52) (by unfold maxLen; simp; omega) (by simp; omega) (by simp; omega) ?_; intro v3 w3 hown3 hgrow3))
            have HC := Lib.hid (grows6_more HR.out (hE.alloc hE.size _) hown3 hgrow3)
            go_roundw
            case rel => exact ⟨k + 1, by omega, by go_num, by rw [HN2.out]; exact HC.out⟩
            case measure => simp [intOf]; omega
          · have HN2 := Lib.hid (hN (by rw [hPK]; simpa using hy))
            have e1 : (y2 == blk) = false := by simpa using hy
            clear hPK hY hN hy
            go_wp2_with (go_at_call 38; refine HF4.out.mono ?_; rintro e w1 ⟨rfl, hb1⟩)
            go_roundw
            case rel => exact ⟨k + 1, by omega, by go_num, by rw [HN2.out]; exact grows6_stay HR.out (hb1.alloc hb1.size _)⟩
            case measure => simp [intOf]; omega
      · obtain rfl : k = xs.length := by omega
        have HR := Lib.hid hR
        clear hR
        go_wp2
        go_ret
        have h := HR.out
        rw [cpart_end] at h
        exact ⟨_, rfl, h⟩
  · obtain rfl : xs = [] := List.eq_nil_of_length_eq_zero (by omega)
    clear hv h0 hl hs
    go_enter Try.func20, Try.ntmps20
    go_wp2
    refine wp_loop_rounds 1 ?_
    rw [rounds_succ]
    go_wp2
    go_ret
    exact ⟨_, rfl, own6_nil _ _, Below.refl _ _⟩
end Go.Proofs.Ytkejebjppnhidaa
