
import Derived.Test.YthbehjilabedoaaA12
/- A13: the reference's Get, Without, Part -/
namespace Go.Proofs.Ythbehjilabedoaa
open Go.RowKit
set_option linter.unusedVariables false

theorem getA_step {xs : List Att} {key : Int} {k : Nat} (h : k < xs.length) (hf : getA (xs.take k) key = none) (hne : ¬ xs[k].key = key) : getA (xs.take (k + 1)) key = none := by
  unfold getA at *
  rw [atake_snoc h, List.find?_append, hf]; simp [hne]
theorem getA_found {xs : List Att} {key : Int} {k : Nat} (h : k < xs.length) (hf : getA (xs.take k) key = none) (he : xs[k].key = key) : getA xs key = some xs[k] := by
  unfold getA at *
  conv => lhs; rw [← List.take_append_drop (k + 1) xs, atake_snoc h]
  rw [List.find?_append, List.find?_append, hf]; simp [he]
theorem getA_end {xs : List Att} {key : Int} (hf : getA (xs.take xs.length) key = none) : getA xs key = none := by rwa [List.take_of_length_le (Nat.le_refl _)] at hf
@[reducible] def getV (xs : List Att) (key : Int) : Value := .tuple #[vv ((getA xs key).getD noAtt), .bool (getA xs key).isSome]
theorem getV_some {xs : List Att} {key : Int} {a : Att} (h : getA xs key = some a) : getV xs key = .tuple #[vv a, .bool true] := by unfold getV; rw [h]; rfl
theorem getV_none {xs : List Att} {key : Int} (h : getA xs key = none) : getV xs key = .tuple #[vv noAtt, .bool false] := by unfold getV; rw [h]; rfl

set_option maxHeartbeats 400000 in
theorem rget_any5 (v : Value) (xs : List Att) (key : Int) (w : World) (hv : Arow w v xs) :
    Calls Try.prog 22 #[v, .int .i64 key] w fun e w' => e = .returned (getV xs key) ∧ Below w.heap.size w w' := by
  have hl := hv.len
  obtain ⟨a, cap, rfl⟩ := hv.shape
  by_cases h0 : 0 < xs.length
  · obtain ⟨b, off, rfl, -, -, -, hbl, hat⟩ := Arow.opn hv h0
    clear hv
    have hB := (Below.refl w.heap.size w).alloc (Nat.le_refl _) (.cells (vcells 0 0 0 ⟨#[]⟩) 26)
    have hat2 := Lib.hid (fun j (hj : j < xs.length) => (hat j hj).below hB hbl)
    clear hat
    go_enter Try.func22, Try.ntmps22
    go_wp2
    go_loop [6] (fun i => ∃ k : Nat, k ≤ xs.length ∧ i = .int .i64 k ∧ Hid (getA (xs.take k) key = none)) (fun i => xs.length - (intOf i).toNat)
    case atStart => exact ⟨0, Nat.zero_le _, rfl, Lib.hid rfl⟩
    case round =>
      obtain ⟨k, hk, rfl, HF⟩ := hrel
      by_cases hlt : k < xs.length
      · obtain ⟨c0, c1, c2, c3, c4⟩ := hat2.out k hlt
        have hS := fun h => getA_found hlt HF.out h
        have hN := fun h => getA_step hlt HF.out h
        generalize xs[k] = x at *
        obtain ⟨x1, x2, x3, x4, x5⟩ := x
        simp only at c0 c1 c2 c3 c4 hS hN
        by_cases he : x1 = key
        · have HS := Lib.hid (hS he)
          have e1 : (x1 == key) = true := by simpa using he
          clear he hS hN
          go_wp2
          exact bodyPost_ret (v := .tuple #[val x2 x3 x4 x5, .bool true]) (by simp [results, Try.results22, go_sem]) rfl ⟨by rw [getV_some HS.out], (Below.refl _ _).alloc (Nat.le_refl _) _⟩
        · have HN := Lib.hid (hN he)
          have e1 : (x1 == key) = false := by simpa using he
          clear he hS hN
          go_wp2
          go_round
          case rel => exact ⟨k + 1, by omega, by go_num, HN⟩
          case measure => simp [intOf]; omega
      · obtain rfl : k = xs.length := by omega
        have HN := Lib.hid (getA_end HF.out)
        go_wp2
        exact bodyPost_ret (v := .tuple #[vv noAtt, .bool false]) (by simp [results, Try.results22, go_sem]) rfl ⟨by rw [getV_none HN.out], (Below.refl _ _).alloc (Nat.le_refl _) _⟩
  · obtain rfl : xs = [] := List.eq_nil_of_length_eq_zero (by omega)
    clear hv hl h0
    have hB := (Below.refl w.heap.size w).alloc (Nat.le_refl _) (.cells (vcells 0 0 0 ⟨#[]⟩) 26)
    go_enter Try.func22, Try.ntmps22
    go_wp2
    refine wp_loop_rounds 1 ?_
    rw [rounds_succ]
    go_wp2
    exact bodyPost_ret (v := .tuple #[vv noAtt, .bool false]) (by simp [results, Try.results22, go_sem]) rfl ⟨by rw [getV_none rfl], (Below.refl _ _).alloc (Nat.le_refl _) _⟩

/-- The attributes of other keys. -/
def wout5 (xs : List Att) (key : Int) : List Att := xs.filter fun a => a.key != key
theorem wout_yes {xs : List Att} {key : Int} {k : Nat} (h : k < xs.length) (hb : ¬ xs[k].key = key) : wout5 (xs.take (k + 1)) key = wout5 (xs.take k) key ++ [xs[k]] := by
  unfold wout5; rw [atake_snoc h, List.filter_append]; simp [hb]
theorem wout_no {xs : List Att} {key : Int} {k : Nat} (h : k < xs.length) (hb : xs[k].key = key) : wout5 (xs.take (k + 1)) key = wout5 (xs.take k) key := by
  unfold wout5; rw [atake_snoc h, List.filter_append]; simp [hb]
theorem wout_le (xs : List Att) (key : Int) : (wout5 xs key).length ≤ xs.length := List.length_filter_le _ _
theorem wout_end (xs : List Att) (key : Int) : wout5 (xs.take xs.length) key = wout5 xs key := by rw [List.take_of_length_le (Nat.le_refl _)]

/-- A row that grows by one, or stays: what the loops of this layer keep. -/
def Grows (w : World) (ls : List Att) (v : Value) (wr : World) : Prop := Own5 w wr v ls ∧ Below w.heap.size w wr
theorem grows_stay {w wr w2 : World} {ls : List Att} {v : Value} (h : Grows w ls v wr) (hb : Below wr.heap.size wr w2) : Grows w ls v w2 := ⟨owns_below h.1 hb, below_add h.2 hb h.2.size⟩
theorem grows_more {w wr w2 w3 : World} {ls : List Att} {x : Att} {v v3 : Value} (h : Grows w ls v wr) (hb : Below wr.heap.size wr w2)
    (ho : w3.ownsRow w.heap.size 28 5 v3 (ls.length + 1) (fl attC ls ++ fl attC [x])) (hg : w2.grownBy w3 v.ownBlock) : Grows w (ls ++ [x]) v3 w3 := by
  obtain ⟨h1, h2⟩ := h
  refine ⟨?_, (below_add h2 hb h2.size).grown hg (below_add h2 hb h2.size).size (fun j hj => own_base h1 hj)⟩
  unfold Own5
  rw [fl_app, List.length_append]
  exact ho

set_option maxRecDepth 100000 in
set_option maxHeartbeats 1000000 in
theorem rwithout_any5 (v : Value) (xs : List Att) (key : Int) (w : World) (hv : Arow w v xs) (hl : xs.length ≤ 1000) :
    Calls Try.prog 24 #[v, .int .i64 key] w fun e w' => ∃ u, e = .returned u ∧ Own5 w w' u (wout5 xs key) ∧ Below w.heap.size w w' := by
  obtain ⟨i0, hi, hz0, hz1, hz2⟩ := info_att5
  obtain ⟨a1, cap1, rfl⟩ := hv.shape
  by_cases h0 : 0 < xs.length
  · obtain ⟨b1, o1, rfl, -, -, -, hbl, hat⟩ := Arow.opn hv h0
    have HAT := Lib.hid hat
    clear hv hat
    go_enter Try.func24, Try.ntmps24
    go_wp2
    go_loopw [5, 6] (fun s5 s6 wr => ∃ k : Nat, k ≤ xs.length ∧ s6 = .int .i64 k ∧ Grows w (wout5 (xs.take k) key) s5 wr) (fun _ s6 _ => xs.length - (intOf s6).toNat)
    case atStart => exact ⟨0, Nat.zero_le _, rfl, own5_nil _ _, Below.refl _ _⟩
    case round =>
      obtain ⟨k, hk, rfl, hR⟩ := hrel
      by_cases hlt : k < xs.length
      · obtain ⟨c0, c1, c2, c3, c4⟩ := (HAT.out k hlt).below hR.2 hbl
        have hY := fun h => wout_yes (key := key) hlt h
        have hN := fun h => wout_no (key := key) hlt h
        have hpl := wout_le (xs.take k) key
        rw [List.length_take] at hpl
        have hsz := hR.2.size
        have HR := Lib.hid hR
        clear hR
        generalize xs[k] = x at *
        obtain ⟨x1, x2, x3, x4, x5⟩ := x
        simp only at c0 c1 c2 c3 c4 hY hN
        by_cases he : x1 = key
        · have HN := Lib.hid (hN he)
          have e1 : (x1 != key) = false := by simpa using he
          clear he hY hN
          go_wp2
          go_roundw
          case rel => exact ⟨k + 1, by omega, by go_num, by rw [HN.out]; exact HR.out⟩
          case measure => simp [intOf]; omega
        · have HN := Lib.hid (hY he)
          have e1 : (x1 != key) = true := by simpa using he
          clear he hY hN
          go_wp2_with (at_builtin; refine wpList_append_row (C := attC) rfl (.tmp 20) (.tmp 25) 23 rfl w.heap.size 28 i0 (av noAtt) 48 Try.underlying23 hi hz0 hz1 hz2 rfl _ _ _ rfl (owns_below HR.out.1 ((Below.refl _ _).alloc (Nat.le_refl _) _)) _ [⟨x1, x2, x3, x4, x5⟩] rfl (row_new0 wr ⟨x1, x2, x3, x4, x5⟩ 28) (by unfold maxLen; simp; omega) (by simp; omega) (by simp; omega) ?_; intro v3 w3 hown3 hgrow3)
          have HC := Lib.hid (grows_more HR.out ((Below.refl _ _).alloc (Nat.le_refl _) _) hown3 hgrow3)
          go_roundw
          case rel => exact ⟨k + 1, by omega, by go_num, by rw [HN.out]; exact HC.out⟩
          case measure => simp [intOf]; omega
      · obtain rfl : k = xs.length := by omega
        have HR := Lib.hid hR
        clear hR
        go_wp2
        go_ret
        have h := HR.out
        rw [wout_end] at h
        exact ⟨_, rfl, h⟩
  · obtain rfl : xs = [] := List.eq_nil_of_length_eq_zero (by omega)
    clear hv h0 hl
    go_enter Try.func24, Try.ntmps24
    go_wp2
    refine wp_loop_rounds 1 ?_
    rw [rounds_succ]
    go_wp2
    go_ret
    exact ⟨_, rfl, own5_nil _ _, Below.refl _ _⟩

set_option maxRecDepth 100000 in
set_option maxHeartbeats 1000000 in
theorem rpart_any (p : Value) (ks : List Key) (v : Value) (xs : List Att) (blk : Bool) (w : World) (hs : Krow w p ks) (hv : Arow w v xs) (hl : xs.length ≤ 1000) :
    Calls Try.prog 25 #[p, v, .bool blk] w fun e w' => ∃ u, e = .returned u ∧ Own5 w w' u (part5 ks blk xs) ∧ Below w.heap.size w w' := by
  obtain ⟨i0, hi, hz0, hz1, hz2⟩ := info_att5
  obtain ⟨a1, cap1, rfl⟩ := hv.shape
  by_cases h0 : 0 < xs.length
  · obtain ⟨b1, o1, rfl, -, -, -, hbl, hat⟩ := Arow.opn hv h0
    have HAT := Lib.hid hat
    have HS := Lib.hid hs
    clear hv hs hat
    go_enter Try.func25, Try.ntmps25
    go_wp2
    go_loopw [7, 8] (fun s7 s8 wr => ∃ k : Nat, k ≤ xs.length ∧ s8 = .int .i64 k ∧ Grows w (part5 ks blk (xs.take k)) s7 wr) (fun _ s8 _ => xs.length - (intOf s8).toNat)
    case atStart => exact ⟨0, Nat.zero_le _, rfl, own5_nil _ _, Below.refl _ _⟩
    case round =>
      obtain ⟨k, hk, rfl, hR⟩ := hrel
      by_cases hlt : k < xs.length
      · have hAT := (HAT.out k hlt).below hR.2 hbl
        have hY := fun h => part_yes (ks := ks) (blk := blk) hlt h
        have hN := fun h => part_no (ks := ks) (blk := blk) hlt h
        have hpl := part_le ks blk (xs.take k)
        rw [List.length_take] at hpl
        have hsz := hR.2.size
        have hblr : b1 < wr.heap.size := by omega
        have HF := Lib.hid (rfind_any p ks xs[k].key wr (HS.out.below hR.2 (Nat.le_refl _)))
        have HR := Lib.hid hR
        clear hR
        have hPN := fun (h : fnd ks xs[k].key = none) => partB_none (blk := blk) h
        have hPS := fun key (h : fnd ks xs[k].key = some key) => partB_some (blk := blk) h
        generalize xs[k] = x at *
        have HT := Lib.hid hAT
        obtain ⟨c0, c1, c2, c3, c4⟩ := hAT
        obtain ⟨x1, x2, x3, x4, x5⟩ := x
        simp only at c0 c1 c2 c3 c4 hPN hPS HF
        cases hf : fnd ks x1 with
        | none =>
          have HN := Lib.hid (hN (hPN hf))
          have HF3 := HF.out
          rw [fndV_none hf] at HF3
          have HF4 := Lib.hid HF3
          clear HF3 HF hPN hPS hf hY hN
          go_wp2_with (go_at_call 37; refine HF4.out.mono ?_; rintro e w1 ⟨rfl, hb1⟩)
          go_roundw
          case rel => exact ⟨k + 1, by omega, by go_num, by rw [HN.out]; exact grows_stay HR.out (hb1.alloc hb1.size _)⟩
          case measure => simp [intOf]; omega
        | some key =>
          have HF3 := HF.out
          rw [fndV_some hf] at HF3
          have HF4 := Lib.hid HF3
          have hPK := hPS key hf
          clear HF3 HF hPN hPS hf
          obtain ⟨y1, y2, y3, y4, y5, y6⟩ := key
          simp only at hPK
          by_cases hy : y2 = blk
          · subst hy
            have HN2 := Lib.hid (hY (by rw [hPK]; simp))
            clear hPK hY hN
            go_wp2_with (first
              | (go_at_call 37; refine HF4.out.mono ?_; rintro e w1 ⟨rfl, hb1⟩; have hE := hb1.alloc hb1.size (.cells (kca ⟨y1, y2, y3, y4, y5, y6⟩) 57); obtain ⟨d0, d1, d2, d3, d4⟩ := HT.out.below hE hblr; have hq : w.heap.size ≤ w1.heap.size := (by have := hb1.size; omega))
              | (at_builtin; refine wpList_append_row (C := attC) rfl (.tmp 34) (.tmp 39) 23 rfl w.heap.size 28 i0 (av noAtt) 48 Try.underlying23 hi hz0 hz1 hz2 rfl _ _ _ rfl (owns_below HR.out.1 (hE.alloc hE.size _)) _ [⟨x1, x2, x3, x4, x5⟩] rfl (row_new1 w1 _ ⟨x1, x2, x3, x4, x5⟩ 28) (by unfold maxLen; simp; omega) (by simp; omega) (by simp; omega) ?_; intro v3 w3 hown3 hgrow3))
            have HC := Lib.hid (grows_more HR.out (hE.alloc hE.size _) hown3 hgrow3)
            go_roundw
            case rel => exact ⟨k + 1, by omega, by go_num, by rw [HN2.out]; exact HC.out⟩
            case measure => simp [intOf]; omega
          · have HN2 := Lib.hid (hN (by rw [hPK]; simpa using hy))
            have e1 : (y2 == blk) = false := by simpa using hy
            clear hPK hY hN hy
            go_wp2_with (go_at_call 37; refine HF4.out.mono ?_; rintro e w1 ⟨rfl, hb1⟩)
            go_roundw
            case rel => exact ⟨k + 1, by omega, by go_num, by rw [HN2.out]; exact grows_stay HR.out (hb1.alloc hb1.size _)⟩
            case measure => simp [intOf]; omega
      · obtain rfl : k = xs.length := by omega
        have HR := Lib.hid hR
        clear hR
        go_wp2
        go_ret
        have h := HR.out
        rw [part_end] at h
        exact ⟨_, rfl, h⟩
  · obtain rfl : xs = [] := List.eq_nil_of_length_eq_zero (by omega)
    clear hv h0 hl hs
    go_enter Try.func25, Try.ntmps25
    go_wp2
    refine wp_loop_rounds 1 ?_
    rw [rounds_succ]
    go_wp2
    go_ret
    exact ⟨_, rfl, own5_nil _ _, Below.refl _ _⟩
end Go.Proofs.Ythbehjilabedoaa
