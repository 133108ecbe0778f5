
import Derived.Test.YtkejebjppnhidaaC4
import Derived.Test.YtkejebjppnhidaaA13
/- C5: a set as a patch, a patch as a set; Diff, Apply, Invert -/
namespace Go.Proofs.Ytkejebjppnhidaa
open Go.RowKit
set_option linter.unusedVariables false

theorem crow_new0 (w : World) (a : Chg) (t : TypeId) : Crow (w.alloc (.cells (cca a) t)) (.slice (some ⟨w.heap.size, 0, none⟩) 1 1) [a] := crow_one w a t
theorem crow_new1 (w : World) (o : Obj) (a : Chg) (t : TypeId) : Crow ((w.alloc o).alloc (.cells (cca a) t)) (.slice (some ⟨w.heap.size + 1, 0, none⟩) 1 1) [a] := by
  have h := crow_new0 (w.alloc o) a t
  simp only [World.size_alloc] at h
  exact h
def Grows6 (w : World) (ls : List Chg) (v : Value) (wr : World) : Prop := Own6 w wr v ls ∧ Below w.heap.size w wr
theorem grows6_stay {w wr w2 : World} {ls : List Chg} {v : Value} (h : Grows6 w ls v wr) (hb : Below wr.heap.size wr w2) : Grows6 w ls v w2 := ⟨owns_below h.1 hb, below_add h.2 hb h.2.size⟩
theorem grows6_more {w wr w2 w3 : World} {ls : List Chg} {x : Chg} {v v3 : Value} (h : Grows6 w ls v wr) (hb : Below wr.heap.size wr w2)
    (ho : w3.ownsRow w.heap.size 52 6 v3 (ls.length + 1) (fl chC ls ++ fl chC [x])) (hg : w2.grownBy w3 v.ownBlock) : Grows6 w (ls ++ [x]) v3 w3 := by
  obtain ⟨h1, h2⟩ := h
  refine ⟨?_, (below_add h2 hb h2.size).grown hg (below_add h2 hb h2.size).size (fun j hj => own_base h1 hj)⟩
  unfold Own6
  rw [fl_app, List.length_append]
  exact ho
theorem grows6_nil (w W : World) (h : Below w.heap.size w W) : Grows6 w [] (.slice none 0 0) W := ⟨World.ownsRow_nil _ _ _ _, h⟩

theorem tsnoc {α : Type} {xs : List α} {k : Nat} (h : k < xs.length) : xs.take (k + 1) = xs.take k ++ [xs[k]] := List.take_succ_eq_append_getElem h
theorem tend {α : Type} (xs : List α) : xs.take xs.length = xs := List.take_of_length_le (Nat.le_refl _)
def chs (xs : List Att) : List Chg := xs.map toC
def ats (xs : List Chg) : List Att := (xs.filter fun c => !c.g).map toA
theorem chs_snoc {xs : List Att} {k : Nat} (h : k < xs.length) : chs (xs.take (k + 1)) = chs (xs.take k) ++ [toC xs[k]] := by unfold chs; rw [tsnoc h, List.map_append]; rfl
theorem chs_len (xs : List Att) : (chs xs).length = xs.length := by simp [chs]
theorem ats_len (xs : List Chg) : (ats xs).length ≤ xs.length := by unfold ats; rw [List.length_map]; exact List.length_filter_le _ _
theorem ats_yes {xs : List Chg} {k : Nat} (h : k < xs.length) (hg : xs[k].g = false) : ats (xs.take (k + 1)) = ats (xs.take k) ++ [toA xs[k]] := by unfold ats; rw [tsnoc h, List.filter_append, List.map_append]; simp [hg]
theorem ats_no {xs : List Chg} {k : Nat} (h : k < xs.length) (hg : xs[k].g = true) : ats (xs.take (k + 1)) = ats (xs.take k) := by unfold ats; rw [tsnoc h, List.filter_append, List.map_append]; simp [hg]

set_option maxRecDepth 100000 in
set_option maxHeartbeats 1000000 in
theorem changes_any (v : Value) (xs : List Att) (w : World) (hv : Arow w v xs) (hl : xs.length ≤ 1000000000) :
    Calls Try.prog 42 #[v] w fun e w' => ∃ u, e = .returned u ∧ Own6 w w' u (chs xs) ∧ Below w.heap.size w w' := by
  obtain ⟨i0, hi, hz0, hz1, hz2⟩ := info_ch
  obtain ⟨a1, cap1, rfl⟩ := hv.shape
  by_cases h0 : 0 < xs.length
  · obtain ⟨b1, o1, rfl, -, -, -, hbl, hat⟩ := Arow.opn hv h0
    have HAT := Lib.hid hat
    clear hv hat
    go_enter Try.func42, Try.ntmps42
    go_wp2
    go_loopw [3, 8] (fun s3 s8 wr => ∃ k : Nat, k ≤ xs.length ∧ s8 = .int .i64 k ∧ Grows6 w (chs (xs.take k)) s3 wr) (fun _ s8 _ => xs.length - (intOf s8).toNat)
    case atStart => exact ⟨0, Nat.zero_le _, rfl, grows6_nil _ _ (Below.refl _ _)⟩
    case round =>
      obtain ⟨k, hk, rfl, hR⟩ := hrel
      by_cases hlt : k < xs.length
      · obtain ⟨c0, c1, c2, c3, c4⟩ := (HAT.out k hlt).below hR.2 hbl
        have hs := chs_snoc hlt
        have hll : (chs (xs.take k)).length ≤ 1000000000 := by rw [chs_len, List.length_take]; omega
        have hsz := hR.2.size
        have HS := Lib.hid hs
        have HR := Lib.hid hR
        clear hR hs
        generalize xs[k] = x at *
        obtain ⟨x1, x2, x3, x4, x5⟩ := x
        simp only at c0 c1 c2 c3 c4
        generalize chs (xs.take k) = ls at *
        have hE : Below wr.heap.size wr (wr.alloc (.cells #[.int .i64 x1, .int .u8 x2, .int .i64 x3, .int .u64 x4, .string x5] 57)) := (Below.refl _ _).alloc (Nat.le_refl _) _
        go_wp2_with (at_builtin; go_loud (refine wpList_append_row (C := chC) rfl (.tmp 12) (.tmp 18) 23 rfl w.heap.size 52 i0 (cv noChg) 56 Try.underlying23 hi hz0 hz1 hz2 rfl _ _ _ rfl (owns_below HR.out.1 (hE.alloc hE.size _)) _ [toC ⟨x1, x2, x3, x4, x5⟩] rfl (crow_new1 wr _ (toC ⟨x1, x2, x3, x4, x5⟩) 52) (by unfold maxLen; simp; omega) (by simp; omega) (by simp; omega) ?_); intro v3 w3 hown3 hgrow3)
        have HC := Lib.hid (grows6_more HR.out (hE.alloc hE.size _) hown3 hgrow3)
        go_roundw
        case rel => exact ⟨k + 1, by omega, by go_num, by rw [HS.out]; exact HC.out⟩
        case measure => simp [intOf]; omega
      · obtain rfl : k = xs.length := by omega
        have HR := Lib.hid hR
        clear hR
        go_wp2
        go_ret
        have h := HR.out
        rw [tend] at h
        exact ⟨_, rfl, h⟩
  · obtain rfl : xs = [] := List.eq_nil_of_length_eq_zero (by omega)
    clear hv h0 hl
    go_enter Try.func42, Try.ntmps42
    go_wp2
    refine wp_loop_rounds 1 ?_
    rw [rounds_succ]
    go_wp2
    go_ret
    exact ⟨_, rfl, World.ownsRow_nil _ _ _ _, Below.refl _ _⟩

set_option maxRecDepth 100000 in
set_option maxHeartbeats 1000000 in
theorem attributes_any (v : Value) (xs : List Chg) (w : World) (hv : Crow w v xs) (hl : xs.length ≤ 1000000000) :
    Calls Try.prog 35 #[v] w fun e w' => ∃ u, e = .returned u ∧ Own5 w w' u (ats xs) ∧ Below w.heap.size w w' := by
  obtain ⟨i0, hi, hz0, hz1, hz2⟩ := info_at
  obtain ⟨a1, cap1, rfl⟩ := hv.shape
  by_cases h0 : 0 < xs.length
  · obtain ⟨b1, o1, rfl, -, -, -, hbl, hat⟩ := Crow.opn hv h0
    have HAT := Lib.hid hat
    clear hv hat
    go_enter Try.func35, Try.ntmps35
    go_wp2
    go_loopw [3, 8] (fun s3 s8 wr => ∃ k : Nat, k ≤ xs.length ∧ s8 = .int .i64 k ∧ Grows w (ats (xs.take k)) s3 wr) (fun _ s8 _ => xs.length - (intOf s8).toNat)
    case atStart => exact ⟨0, Nat.zero_le _, rfl, own5_nil _ _, Below.refl _ _⟩
    case round =>
      obtain ⟨k, hk, rfl, hR⟩ := hrel
      by_cases hlt : k < xs.length
      · obtain ⟨c0, c1, c2, c3, c4, c5⟩ := (HAT.out k hlt).below hR.2 hbl
        have hY := fun h => ats_yes hlt h
        have hN := fun h => ats_no hlt h
        have hll : (ats (xs.take k)).length ≤ 1000000000 := by have := ats_len (xs.take k); rw [List.length_take] at this; omega
        have hsz := hR.2.size
        have HR := Lib.hid hR
        clear hR
        generalize xs[k] = x at *
        obtain ⟨x1, x0, x2, x3, x4, x5⟩ := x
        simp only at c0 c1 c2 c3 c4 c5 hY hN
        have hE : Below wr.heap.size wr (wr.alloc (.cells #[.int .i64 x1, .bool x0, .int .u8 x2, .int .i64 x3, .int .u64 x4, .string x5] 52)) := (Below.refl _ _).alloc (Nat.le_refl _) _
        cases x0
        · have HS := Lib.hid (hY rfl)
          clear hY hN
          generalize ats (xs.take k) = ls at *
          go_wp2_with (at_builtin; go_loud (refine wpList_append_row (C := attC) rfl (.tmp 15) (.tmp 21) 39 rfl w.heap.size 57 i0 (av noAtt) 48 Try.underlying39 hi hz0 hz1 hz2 rfl _ _ _ rfl (owns_below HR.out.1 (hE.alloc hE.size _)) _ [⟨x1, x2, x3, x4, x5⟩] rfl (row_new1 wr _ ⟨x1, x2, x3, x4, x5⟩ 57) (by unfold maxLen; simp; omega) (by simp; omega) (by simp; omega) ?_); intro v3 w3 hown3 hgrow3)
          have HC := Lib.hid (grows_more HR.out (hE.alloc hE.size _) hown3 hgrow3)
          go_roundw
          case rel => exact ⟨k + 1, by omega, by go_num, by rw [HS.out]; exact HC.out⟩
          case measure => simp [intOf]; omega
        · have HS := Lib.hid (hN rfl)
          clear hY hN
          have HC := Lib.hid (grows_stay HR.out hE)
          go_wp2
          go_roundw
          case rel => exact ⟨k + 1, by omega, by go_num, by rw [HS.out]; exact HC.out⟩
          case measure => simp [intOf]; omega
      · obtain rfl : k = xs.length := by omega
        have HR := Lib.hid hR
        clear hR
        go_wp2
        go_ret
        have h := HR.out
        rw [tend] at h
        exact ⟨_, rfl, h⟩
  · obtain rfl : xs = [] := List.eq_nil_of_length_eq_zero (by omega)
    clear hv h0 hl
    go_enter Try.func35, Try.ntmps35
    go_wp2
    refine wp_loop_rounds 1 ?_
    rw [rounds_succ]
    go_wp2
    go_ret
    exact ⟨_, rfl, own5_nil _ _, Below.refl _ _⟩

def app (xs : List Att) (p : List Chg) : List Att := ats (comp (chs xs) p)
def diff6 (a b : List Att) : List Chg := dif (chs a) (chs b)
def inv (a : List Att) (p : List Chg) : List Chg := diff6 (app a p) a
theorem app_len (xs : List Att) (p : List Chg) : (app xs p).length ≤ xs.length + p.length := by
  have := ats_len (comp (chs xs) p)
  have := comp_len (chs xs) p
  rw [chs_len] at this
  unfold app
  omega
theorem diff6_len (a b : List Att) : (diff6 a b).length ≤ a.length + b.length := by
  have := dif_len (chs a) (chs b)
  rw [chs_len, chs_len] at this
  exact this

set_option maxRecDepth 100000 in
theorem apply_any (v1 v2 : Value) (xs : List Att) (p : List Chg) (w : World) (h1 : Arow w v1 xs) (h2 : Crow w v2 p) (hl : xs.length + p.length ≤ 1000000000) :
    Calls Try.prog 23 #[v1, v2] w fun e w' => ∃ u, e = .returned u ∧ Own5 w w' u (app xs p) ∧ Below w.heap.size w w' := by
  have HC := Lib.hid (changes_any v1 xs w h1 (by omega))
  have HM := Lib.hid (fun u w' (h : Crow w' u (chs xs)) (h2 : Crow w' v2 p) => compose_any u v2 (chs xs) p w' h h2 (by rw [chs_len]; omega))
  have HA := Lib.hid (fun u w' (h : Crow w' u (comp (chs xs) p)) => attributes_any u (comp (chs xs) p) w' h (by have := comp_len (chs xs) p; rw [chs_len] at this; omega))
  have H2 := Lib.hid h2
  clear h1 h2
  go_enter Try.func23, Try.ntmps23
  go_wp2_with (first
    | (go_at_call 42; refine HC.out.mono ?_; rintro e w1 ⟨u1, rfl, ho1, hb1⟩)
    | (go_at_call 24; refine (HM.out u1 _ (own6_row ho1) (H2.out.below hb1 (Nat.le_refl _))).mono ?_; rintro e w2 ⟨u2, rfl, ho2, hb2⟩)
    | (go_at_call 35; refine (HA.out u2 _ (own6_row ho2)).mono ?_; rintro e w3 ⟨u3, rfl, ho3, hb3⟩))
  go_ret
  have hb12 := below_add hb1 hb2 hb1.size
  exact ⟨_, rfl, owns_mono ho3 hb12.size, below_add hb12 hb3 hb12.size⟩

set_option maxRecDepth 100000 in
theorem diff_any (v1 v2 : Value) (a b : List Att) (w : World) (h1 : Arow w v1 a) (h2 : Arow w v2 b) (hl : a.length + b.length ≤ 1000000000) :
    Calls Try.prog 26 #[v1, v2] w fun e w' => ∃ u, e = .returned u ∧ Own6 w w' u (diff6 a b) ∧ Below w.heap.size w w' := by
  have hb : Below w.heap.size w (w.alloc (.cells #[.slice none 0 0] 23)) := (Below.refl _ _).alloc (Nat.le_refl _) _
  have hc := nilcell_new w 23
  have hf := frozen_new w 23
  have hsz : (w.alloc (.cells #[.slice none 0 0] 23)).heap.size = w.heap.size + 1 := by simp
  have HC1 := Lib.hid (changes_any v1 a _ (h1.below hb (Nat.le_refl _)) (by omega))
  have HC2 := Lib.hid (fun w1 (h : Below w.heap.size w w1) => changes_any v2 b w1 (h2.below h (Nat.le_refl _)) (by omega))
  have HS := Lib.hid (fun v1 v2 W1 hc hf (h1 : Crow W1 v1 (chs a)) (h2 : Crow W1 v2 (chs b)) n1 n2 => side_any _ _ v1 v2 (chs a) (chs b) _ (pays_diff (B0 := w.heap.size) h1 h2 n1 n2 (by rw [chs_len, chs_len]; omega)) W1 ⟨_, acc_start hc hf⟩)
  have HB := Lib.hid hb
  clear h1 h2 hb
  go_enter Try.func26, Try.ntmps26
  go_wp2_with fail
  generalize w.alloc (.cells #[.slice none 0 0] 23) = w0 at *
  go_wp2_with (first
    | (go_at_call 42; with_reducible (refine HC1.out.mono ?_); rintro e w1 ⟨u1, rfl, ho1, hb1⟩; clear HC1)
    | (go_at_call 42; with_reducible (refine (HC2.out _ (below_add HB.out hb1 HB.out.size)).mono ?_); rintro e w2 ⟨u2, rfl, ho2, hb2⟩; have hb02 := below_add hb1 hb2 hb1.size)
    | (go_at_call 43; refine (HS.out u1 u2 _ ((hb02.cell (p := ⟨w.heap.size, 0, none⟩) (by show w.heap.size < w0.heap.size; omega)).trans hc) ((hb02.frozen (p := ⟨w.heap.size, 0, none⟩) (by show w.heap.size < w0.heap.size; omega)).trans hf) ((own6_row ho1).below hb2 (Nat.le_refl _)) (own6_row ho2) (off_own ho1 (by omega) _) (off_own ho2 (by have := hb1.size; omega) _)).mono ?_; rintro e w3 ⟨rfl, v, hA⟩; have hcv := hA.cell))
  go_ret
  exact ⟨_, rfl, acc_end hA (below_add HB.out hb02 HB.out.size)⟩

set_option maxRecDepth 100000 in
theorem invert_any (v1 v2 : Value) (xs : List Att) (p : List Chg) (w : World) (h1 : Arow w v1 xs) (h2 : Crow w v2 p) (hl : xs.length + p.length ≤ 100000000) :
    Calls Try.prog 25 #[v1, v2] w fun e w' => ∃ u, e = .returned u ∧ Own6 w w' u (inv xs p) ∧ Below w.heap.size w w' := by
  have HA := Lib.hid (apply_any v1 v2 xs p w h1 h2 (by omega))
  have HD := Lib.hid (fun u w' (h : Arow w' u (app xs p)) (h2 : Arow w' v1 xs) => diff_any u v1 (app xs p) xs w' h h2 (by have := app_len xs p; omega))
  have H1 := Lib.hid h1
  clear h1 h2
  go_enter Try.func25, Try.ntmps25
  go_wp2_with (first
    | (go_at_call 23; refine HA.out.mono ?_; rintro e w1 ⟨u1, rfl, ho1, hb1⟩)
    | (go_at_call 26; refine (HD.out u1 _ (Own5.row ho1) (H1.out.below hb1 (Nat.le_refl _))).mono ?_; rintro e w2 ⟨u2, rfl, ho2, hb2⟩))
  go_ret
  exact ⟨_, rfl, owns_mono ho2 hb1.size, below_add hb1 hb2 hb1.size⟩
end Go.Proofs.Ytkejebjppnhidaa
