
import Derived.Test.YtjgfgpkaeddjhaaOC
/- OD: the rune at a place; all runes -/
namespace Go.Proofs.Ytjgfgpkaeddjhaa
open Go.RowKit
set_option linter.unusedVariables false

/-- A whole row out of its block, at an operation that is wanted, whatever it is guarded by. -/
theorem wpList_load_roww {P : Program} {ops : Array Oper} {rest : List Oper} {o : Oper} {a : Act} {w : World} {Q : Exit → Act → World → Prop} (ty : TypeId) (x : Operand) (ho : o.op = .load ty x)
    (g : Nat) (hx : a.eval x = .pointer (some ⟨g, 0, none⟩)) (hw : Region.wanted o (yielded ops a.tmps) = true) (t : TypeId) (cs : Array Value) (fr : Nat × Nat) (d : TypeDesc) (hg : w.heap[g]? = some (.cells cs t fr))
    (hu : P.underlying ty = some d) (hd : (match d with | .struct _ | .array _ _ => true | _ => false) = true) (hi : (P.info? ty).map (·.size) = some cs.size)
    (h : wpList P ops Q rest (a.put o.dst (.agg cs)) w) : wpList P ops Q (o :: rest) a w :=
  wpList_step fun K hK => by
    rw [if_pos hw]
    exact wp_load_row ty x ho g hx t cs fr d hg hu hd hi (hK _ _ h)

theorem at_neg (l : List Int) (h : Chunky l) (i : Int) (hi : i < 0) (w : World) : Calls Try.prog 27 #[cv l, .int .i64 i] w fun e w' => e = .returned (.tuple #[.int .i32 0, .int .i64 5]) ∧ Below w.heap.size w w' := by
  have HB := Lib.hid (show Below w.heap.size w (w.alloc (.cells (row (slots l)) 58)) from (Below.refl _ _).alloc (Nat.le_refl _) _)
  have g0 : decide (i < 0) = true := by rw [decide_eq_true_iff]; exact hi
  unfold cv
  clear h
  go_enter Try.func27, Try.ntmps27
  go_wp2
  exact bodyPost_ret (by simp [results, Try.results27, go_sem]) rfl ⟨rfl, HB.out⟩

theorem at_past (l : List Int) (h : Chunky l) (i : Int) (hi : (l.length : Int) ≤ i) (w : World) : Calls Try.prog 27 #[cv l, .int .i64 i] w fun e w' => e = .returned (.tuple #[.int .i32 0, .int .i64 5]) ∧ Below w.heap.size w w' := by
  have R := Lib.hid (rowAt_new w 58 (slots l))
  have hL := slots_len h.1
  have hs : (row (slots l)).size = 32 := by rw [row_size, hL]
  have HN := Lib.hid (fun w => len_any l h w)
  have HB := Lib.hid (show Below w.heap.size w (w.alloc (.cells (row (slots l)) 58)) from (Below.refl _ _).alloc (Nat.le_refl _) _)
  have HI := Lib.hid (show (Try.prog.info? 58).map (·.size) = some (row (slots l)).size by rw [hs]; exact info_chunk)
  have g0 : decide (i < 0) = false := by rw [decide_eq_false_iff_not]; omega
  have g1 : decide ((l.length : Int) ≤ i) = true := by rw [decide_eq_true_iff]; exact hi
  unfold cv at *
  clear h hL hs
  go_enter Try.func27, Try.ntmps27
  go_wp2_with (first
    | (refine wpList_load_roww 58 _ rfl _ rfl (by rfl) _ _ _ _ R.out Try.underlying58 rfl HI.out ?_)
    | (go_at_call 47; refine (HN.out _).mono ?_; rintro e w1 ⟨rfl, b1⟩; have B1 := Lib.hid b1; clear b1))
  exact bodyPost_ret (by simp [results, Try.results27, go_sem]) rfl ⟨rfl, below_add HB.out B1.out (by simp)⟩

/-- A slot that holds a rune, taken back to the rune. -/
theorem wrap_rune {x r : Int} (hx : x = r + 1) (h0 : 0 ≤ r) (h1 : r ≤ 1114111) : wrap32 (x - 1) = r := by
  unfold wrap32; omega
theorem wrap_slot {r : Int} (h0 : 0 ≤ r) (h1 : r ≤ 1114111) : wrap32 (r + 1) = r + 1 := by
  unfold wrap32; omega

theorem at_in (l : List Int) (h : Chunky l) (j : Nat) (hj : j < l.length) (w : World) : Calls Try.prog 27 #[cv l, .int .i64 j] w fun e w' => e = .returned (.tuple #[.int .i32 (l.getD j 0), .int .i64 0]) ∧ Below w.heap.size w w' := by
  have R := Lib.hid (rowAt_new w 58 (slots l))
  have hL := slots_len h.1
  have h32 := h.1
  have hs : (row (slots l)).size = 32 := by rw [row_size, hL]
  have HN := Lib.hid (fun w => len_any l h w)
  have HB := Lib.hid (show Below w.heap.size w (w.alloc (.cells (row (slots l)) 58)) from (Below.refl _ _).alloc (Nat.le_refl _) _)
  have HI := Lib.hid (show (Try.prog.info? 58).map (·.size) = some (row (slots l)).size by rw [hs]; exact info_chunk)
  have g0 : decide ((j : Int) < 0) = false := by rw [decide_eq_false_iff_not]; omega
  have g1 : decide (l.length ≤ j) = false := by rw [decide_eq_false_iff_not]; omega
  have hr := h.2 (l.getD j 0) (by simp [List.getD, hj])
  have i0 : (0 : Int) ≤ (j : Int) := by omega
  have i1 : (j : Int) < 32 := by omega
  have hw := wrap_rune (slots_in hj) hr.1 hr.2
  unfold cv at *
  have hc := (R.out.cell (j := j) (by omega))
  obtain ⟨x, hx⟩ : ∃ x, (slots l).getD j 0 = x := ⟨_, rfl⟩
  obtain ⟨r, hr'⟩ : ∃ r, l.getD j 0 = r := ⟨_, rfl⟩
  rw [hx] at hc hw
  rw [hr'] at hw ⊢
  clear h hL hs h32 hx hr hr'
  go_enter Try.func27, Try.ntmps27
  go_wp2_with (first
    | (refine wpList_load_roww 58 _ rfl _ rfl (by rfl) _ _ _ _ R.out Try.underlying58 rfl HI.out ?_)
    | (go_at_call 47; refine (HN.out _).mono ?_; rintro e w1 ⟨rfl, b1⟩; have B1 := Lib.hid b1; have hc1 := (b1.cell (p := ⟨w.heap.size, j, none⟩) (by simp)).trans hc; clear hc b1))
  exact bodyPost_ret (by simp [results, Try.results27, go_sem]; exact hw) rfl ⟨rfl, below_add HB.out B1.out (by simp)⟩

theorem RowAt.frozen {b j : Nat} {t : TypeId} {xs : List Int} {w : World} (h : RowAt b t xs w) : w.frozen? ⟨b, j, none⟩ = false := frozen_of_row w b j _ t h
theorem RowAt.lt {b : Nat} {t : TypeId} {xs : List Int} {w : World} (h : RowAt b t xs w) : b < w.heap.size := (Array.getElem?_eq_some_iff.1 h).1
theorem row_set (xs : List Int) (j : Nat) (x : Int) : (row xs).setIfInBounds j (.int .i32 x) = row (xs.set j x) := by
  apply Array.toList_inj.1
  simp [row, List.map_set]
theorem RowAt.set {b j : Nat} {t : TypeId} {xs : List Int} {w : World} (h : RowAt b t xs w) (x : Int) : RowAt b t (xs.set j x) (w.setCell ⟨b, j, none⟩ (.int .i32 x)) := by
  show (w.setCell ⟨b, j, none⟩ _).heap[b]? = _
  rw [heap_setCell_same w b j (row xs) t _ h, row_set]
theorem RowAt.other {b c j : Nat} {t : TypeId} {xs : List Int} {w : World} (h : RowAt b t xs w) (hn : b ≠ c) (v : Value) : RowAt b t xs (w.setCell ⟨c, j, none⟩ v) :=
  (heap_setCell_other w ⟨c, j, none⟩ b v hn).trans h
theorem rowAt_of_owns {w : World} {base g n : Nat} {e : TypeId} {xs : List Int} (h : w.ownsRow base e 1 (.slice (some ⟨g, 0, none⟩) n n) n (xs.map (Value.int .i32))) : RowAt g e xs w := by
  rcases h.2 with ⟨h', _⟩ | ⟨g', cap', cur, h', hb, hg, hnc, hcm, hcs, htake⟩
  · simp at h'
  · simp only [Value.slice.injEq, Option.some.injEq, Addr.mk.injEq, and_true, true_and] at h'
    obtain ⟨rfl, rfl⟩ := h'
    have e1 : cur.toList = xs.map (Value.int .i32) := by
      rw [← htake]
      exact (List.take_of_length_le (by simp; omega)).symm
    show w.heap[g]? = _
    rw [hg, row, ← e1]
theorem RowAt.owns {w : World} {base g : Nat} {e : TypeId} {xs : List Int} (h : RowAt g e xs w) (hb : base ≤ g) (hm : xs.length ≤ maxLen) : w.ownsRow base e 1 (.slice (some ⟨g, 0, none⟩) xs.length xs.length) xs.length (xs.map (Value.int .i32)) :=
  ⟨by simp, .inr ⟨g, xs.length, row xs, rfl, hb, h, Nat.le_refl _, hm, by rw [row_size]; omega, by rw [Nat.mul_one]; refine (List.take_of_length_le (by simp [row])).trans ?_; simp [row]⟩⟩

/-- The first k of l, and noughts up to its length. -/
def mix (l : List Int) (k : Nat) : List Int := l.take k ++ List.replicate (l.length - k) 0
theorem mix_len {l : List Int} {k : Nat} (h : k ≤ l.length) : (mix l k).length = l.length := by simp [mix]; omega
theorem mix_zero (l : List Int) : mix l 0 = List.replicate l.length 0 := by simp [mix]
theorem mix_all (l : List Int) : mix l l.length = l := by simp [mix]
theorem mix_succ {l : List Int} {k : Nat} (h : k < l.length) : (mix l k).set k (l.getD k 0) = mix l (k + 1) := by
  have hk : (l.take k).length = k := by rw [List.length_take]; omega
  unfold mix
  rw [take_snoc l k h, List.set_append_right _ _ (by omega), hk, Nat.sub_self, show l.length - k = (l.length - (k + 1)) + 1 by omega, List.replicate_succ, List.set_cons_zero, List.append_assoc]
  rfl

theorem info32 : (Try.prog.info? 21).map (fun i => (i.zero, i.size, i.bytes)) = some (some (.int .i32 0), 1, 4) := by kernel_rfl

theorem runes_any (l : List Int) (h : Chunky l) (w : World) : Calls Try.prog 30 #[cv l] w fun e w' => ∃ v, e = .returned v ∧ w'.ownsRow w.heap.size 21 1 v l.length (l.map (Value.int .i32)) ∧ Below w.heap.size w w' := by
  have R := Lib.hid (rowAt_new w 58 (slots l))
  have hL := slots_len h.1
  have h32 := h.1
  have hs : (row (slots l)).size = 32 := by rw [row_size, hL]
  have HN := Lib.hid (fun w => len_any l h w)
  have HB := Lib.hid (show Below w.heap.size w (w.alloc (.cells (row (slots l)) 58)) from (Below.refl _ _).alloc (Nat.le_refl _) _)
  have HI := Lib.hid (show (Try.prog.info? 58).map (·.size) = some (row (slots l)).size by rw [hs]; exact info_chunk)
  have HW := Lib.hid (fun j (hj : j < l.length) => wrap_rune (slots_in hj) (h.2 (l.getD j 0) (by simp [List.getD, hj])).1 (h.2 (l.getD j 0) (by simp [List.getD, hj])).2)
  unfold cv at *
  clear h hs
  obtain ⟨i0, hi, hz0, hz1, hz2⟩ := info_parts info32
  go_enter Try.func30, Try.ntmps30
  go_wp2_with (first
    | (refine wpList_load_roww 58 _ rfl _ rfl (by rfl) _ _ _ _ R.out Try.underlying58 rfl HI.out ?_)
    | (go_at_call 47; refine (HN.out _).mono ?_; rintro e w1 ⟨rfl, b1⟩; have B1 := Lib.hid (below_add HB.out b1 (by simp)); have R1 := Lib.hid (R.out.below b1); have S1 : w.heap.size < w1.heap.size := R1.out.lt; clear b1 R HB)
    | (at_make; refine wpList_make_ints _ rfl _ _ 22 rfl w1.heap.size 21 i0 .i32 Try.underlying22 hi hz0 hz1 _ _ _ _ l.length l.length rfl rfl rfl rfl (Nat.le_refl _) (by rw [hz2]; omega) (by unfold maxLen; omega) (Nat.le_refl _) ?_; intro w2 o2 g2; have O2 := Lib.hid o2; have G2 := Lib.hid g2; clear o2 g2))
  have b2 : Below w1.heap.size w1 w2 := (Below.refl _ _).grown G2.out (Nat.le_refl _) (fun k h => by cases h)
  have B2 := Lib.hid (below_add B1.out b2 B1.out.size)
  have R2 := Lib.hid (R1.out.below b2)
  have M2 := Lib.hid (show RowAt w1.heap.size 21 (mix l 0) w2 by rw [mix_zero]; exact rowAt_of_owns (by simpa using O2.out))
  have MS := Lib.hid (fun k (h : k < l.length) => mix_succ h)
  have ML := Lib.hid (fun k (h : k ≤ l.length) => mix_len h)
  have MA := Lib.hid (mix_all l)
  clear O2 G2 b2 R1 B1 HN HI
  go_loopw [10] (fun s10 wr => ∃ k : Nat, k ≤ l.length ∧ s10 = .int .i64 k ∧ Hid (RowAt w1.heap.size 21 (mix l k) wr ∧ RowAt w.heap.size 58 (slots l) wr ∧ Below w.heap.size w wr)) (fun s10 _ => l.length - (intOf s10).toNat)
  case atStart => exact ⟨0, Nat.zero_le _, rfl, Lib.hid ⟨M2.out, R2.out, B2.out⟩⟩
  case round =>
    rename_i wr
    obtain ⟨k, hk, rfl, H⟩ := hrel
    have i0 : (0 : Int) ≤ (k : Int) := by omega
    by_cases hlt : k < l.length
    · have i1 : (k : Int) < 32 := by omega
      have i2 : (k : Int) < l.length := by omega
      have hc := H.out.2.1.cell (j := k) (by omega)
      have hc2 := H.out.1.cell (j := k) (by rw [ML.out k hk]; omega)
      have hf2 := H.out.1.frozen (j := k)
      have hw := HW.out k hlt
      have hs := MS.out k hlt
      obtain ⟨x, hx⟩ : ∃ x, (slots l).getD k 0 = x := ⟨_, rfl⟩
      obtain ⟨r, hr⟩ : ∃ r, l.getD k 0 = r := ⟨_, rfl⟩
      obtain ⟨y, hy⟩ : ∃ y, (mix l k).getD k 0 = y := ⟨_, rfl⟩
      rw [hx] at hc hw
      rw [hr] at hw hs
      rw [hy] at hc2
      have HE := Lib.hid (show RowAt w1.heap.size 21 (mix l (k + 1)) (wr.setCell ⟨w1.heap.size, k, none⟩ (.int .i32 r)) ∧ RowAt w.heap.size 58 (slots l) (wr.setCell ⟨w1.heap.size, k, none⟩ (.int .i32 r)) ∧ Below w.heap.size w (wr.setCell ⟨w1.heap.size, k, none⟩ (.int .i32 r)) from
        ⟨by rw [← hs]; exact H.out.1.set r, H.out.2.1.other (by omega) _, H.out.2.2.setCell (by simp; omega) _⟩)
      clear hx hr hy hs HW MS ML MA hL M2 R2 B2
      go_wp2
      go_round
      case rel => trace_state; exact ⟨k + 1, by omega, by go_num, by first | exact HE | (rw [hw]; exact HE)⟩
      case measure => simp [intOf]; omega
    · obtain rfl : k = l.length := by omega
      go_wp2
      go_ret
      exact ⟨_, rfl, by have := RowAt.owns (base := w.heap.size) H.out.1 (by omega) (by rw [MA.out]; unfold maxLen; omega); rw [MA.out] at this; exact this, H.out.2.2⟩
end Go.Proofs.Ytjgfgpkaeddjhaa
