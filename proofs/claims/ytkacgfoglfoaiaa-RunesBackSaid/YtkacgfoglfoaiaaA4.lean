import Derived.Test.YtkacgfoglfoaiaaA1
import Derived.Test.YtkacgfoglfoaiaaA3
import Derived.Test.YtkacgfoglfoaiaaShelf
namespace Go.Proofs.Ytkacgfoglfoaiaa
open Go.RowKit
set_option linter.unusedVariables false

def utfZ (xs : List Int) : List Int := xs.flatMap Lib.encodeRuneZ
def allMay (xs : List Int) : Bool := xs.all mayB
theorem utfZ_snoc (xs : List Int) (x : Int) : utfZ (xs ++ [x]) = utfZ xs ++ Lib.encodeRuneZ x := by simp [utfZ]
theorem utfZ_len : ∀ xs : List Int, (utfZ xs).length ≤ 4 * xs.length
  | [] => by simp [utfZ]
  | x :: t => by
    have h := Lib.encodeRuneZ_length x
    have ih := utfZ_len t
    simp only [utfZ, List.flatMap_cons, List.length_append, List.length_cons] at ih ⊢
    omega
theorem allMay_take (xs : List Int) (k : Nat) (h : k < xs.length) (hm : allMay (xs.take k) = true) (hx : mayB (xs.getD k 0) = true) : allMay (xs.take (k + 1)) = true := by
  rw [take_snoc xs k h]
  simp only [allMay, List.all_append, List.all_cons, List.all_nil, Bool.and_true, Bool.and_eq_true] at hm ⊢
  exact ⟨hm, hx⟩
theorem allMay_not (xs : List Int) (k : Nat) (h : k < xs.length) (hx : mayB (xs.getD k 0) = false) : allMay xs = false := by
  cases ha : allMay xs with
  | false => rfl
  | true =>
    rw [allMay, List.all_eq_true] at ha
    have := ha (xs.getD k 0) (by simp [List.getD, h])
    rw [this] at hx
    cases hx
theorem may_range (r : Int) (h : mayB r = true) : 0 ≤ r ∧ r ≤ 1114111 := by
  unfold mayB at h
  rw [decide_eq_true_iff] at h
  omega

theorem info5 : (Try.prog.info? 5).map (fun i => (i.zero, i.size, i.bytes)) = some (some (.int .u8 0), 1, 1) := by kernel_rfl
theorem info21 : (Try.prog.info? 21).map (fun i => (i.zero, i.size, i.bytes)) = some (some (.int .i32 0), 1, 4) := by kernel_rfl

def BytesPost (B : Nat) (xs : List Int) (w : World) (e : Ending) (w' : World) : Prop :=
  Below w.heap.size w w' ∧
  ((allMay xs = true ∧ ∃ v n, e = .returned (.tuple #[v, .int .i64 0]) ∧ w'.ownsRow B 5 1 v n ((utfZ xs).map (Value.int .u8))) ∨
   (allMay xs = false ∧ e = .returned (.tuple #[.slice none 0 0, .int .i64 3])))

/-- What a round of Bytes does. -/
theorem bytes_round {w wr w1 : World} {o : Obj} {B k n : Nat} {v v' : Value} {xs : List Int} {x : Int} (hx : xs.getD k 0 = x) (hk : k < xs.length) (hB : w.heap.size = B)
    (h1 : w1.ownsRow B 5 1 v' (n + (Lib.runeCells x).length) ((utfZ (xs.take k)).map (Value.int .u8) ++ Lib.runeCells x)) (hown : wr.ownsRow B 5 1 v n ((utfZ (xs.take k)).map (Value.int .u8)))
    (hg : (wr.alloc o).grownBy w1 v.ownBlock) (hb : Below B w wr) :
    (w1.ownsRow B 5 1 v' (n + (Lib.runeCells x).length) ((utfZ (xs.take (k + 1))).map (Value.int .u8))) ∧ Below B w w1 := by
  subst hB
  refine ⟨?_, ?_⟩
  · rw [take_snoc xs k hk, hx, utfZ_snoc, List.map_append]
    exact h1
  · have hsz := hb.size
    refine (hb.alloc hsz o).grown hg (by simp; omega) ?_
    intro j hj
    exact (hown.lt j hj).1

set_option maxHeartbeats 1000000 in
theorem bytes_any (v : Value) (xs : List Int) (w : World) (hv : Ints .i32 w v xs) (hlen : xs.length ≤ 1000000) :
    Calls Try.prog 8 #[v] w (BytesPost w.heap.size xs w) := by
  obtain ⟨i0, hi, hz0, hz1, hz2⟩ := info_parts info5
  rcases hv with ⟨a, cap, rfl, rfl, hm, _⟩ | ⟨b, off, cap, rfl, h0, h1, hm, hc⟩
  · go_enter Try.func8, Try.ntmps8
    go_wp2_with (at_make; refine wpList_make_own _ rfl _ _ 23 rfl w.heap.size 5 i0 (.int .u8 0) 1 Try.underlying23 hi hz0 hz1 _ _ _ 0 rfl rfl (by omega) (by rw [hz2]; omega) (by unfold maxLen; omega) (Nat.le_refl _) ?_; intro w0 hown0 hgrow0)
    refine wp_loop_rounds 1 ?_
    rw [rounds_succ]
    go_wp2
    go_ret2
    exact ⟨(Below.refl _ _).grown hgrow0 (Nat.le_refl _) (fun k h => by cases h), .inl ⟨rfl, _, _, rfl, hown0⟩⟩
  · unfold maxLen at hm
    obtain ⟨B, hB⟩ : ∃ B, w.heap.size = B := ⟨_, rfl⟩
    have hbB : b < B := hB ▸ World.block_lt_of_cell? w _ (hc 0 h0)
    have HB := Lib.hid hB
    rw [hB]
    have hBle : B ≤ w.heap.size := by omega
    clear hB
    go_enter Try.func8, Try.ntmps8
    go_wp2_with (at_make; refine wpList_make_own _ rfl _ _ 23 rfl B 5 i0 (.int .u8 0) 1 Try.underlying23 hi hz0 hz1 _ _ _ xs.length rfl rfl (by omega) (by rw [hz2]; omega) (by unfold maxLen; omega) hBle ?_; intro w0 hown0 hgrow0)
    go_loopw [4, 12] (fun v i wr => ∃ k n : Nat, k ≤ xs.length ∧ i = .int .i64 k ∧ wr.ownsRow B 5 1 v n ((utfZ (xs.take k)).map (Value.int .u8)) ∧ Hid (allMay (xs.take k) = true) ∧ Below B w wr) (fun _ i _ => xs.length - (intOf i).toNat)
    case atStart => exact ⟨0, 0, Nat.zero_le _, rfl, hown0, rfl, (Below.refl _ _).grown hgrow0 (by omega) (fun k h => by cases h)⟩
    case round =>
      obtain ⟨k, n, hk, rfl, hown, ham, hb⟩ := hrel
      have hsz := hb.size
      have hn : n ≤ 4000000 := by
        have e := hown.1
        have l := utfZ_len (xs.take k)
        have l2 : (xs.take k).length ≤ k := List.length_take_le _ _
        simp at e
        omega
      by_cases hlt : k < xs.length
      · have hcx : wr.cell? ⟨b, off + k, none⟩ = some (.int .i32 (xs.getD k 0)) := (hb.cell (p := ⟨b, off + k, none⟩) hbB).trans (hc k hlt)
        have K1 := Lib.hid (allMay_take xs k hlt ham.out)
        have K2 := Lib.hid (allMay_not xs k hlt)
        obtain ⟨x, hx⟩ : ∃ x, xs.getD k 0 = x := ⟨_, rfl⟩
        rw [hx] at hcx K1 K2
        have HX := Lib.hid hx
        clear hx hc
        cases hmx : mayB x with
        | true =>
          have hr := may_range x hmx
          have K3 := Lib.hid (K1.out hmx)
          clear K1 K2
          go_wp2_with (first
            | (go_at_call 13; refine (may_any _ _).mono ?_; rintro e w' ⟨rfl, rfl⟩)
            | (go_at_call 17; refine (Try.utf8_AppendRune_plain B _ _ _ _ (by omega) (by omega) _ hown (by omega) (by omega)).mono ?_))
          rintro e w1 ⟨v', rfl, h1', o, hg⟩
          have R := bytes_round HX.out hlt HB.out h1' hown hg hb
          clear h1' hown hg
          go_wp2
          go_roundw
          case rel => exact ⟨k + 1, _, by omega, by go_num, R.1, K3.out, R.2⟩
          case measure => simp [intOf]; omega
        | false =>
          have K3 := Lib.hid (K2.out hmx)
          clear K1 K2
          go_wp2_with (go_at_call 13; refine (may_any _ _).mono ?_; rintro e w' ⟨rfl, rfl⟩)
          go_ret2
          exact ⟨HB.out.symm ▸ hb, .inr ⟨K3.out, rfl⟩⟩
      · obtain rfl : k = xs.length := by omega
        have ham2 := ham.out
        rw [List.take_of_length_le (Nat.le_refl _)] at ham2 hown
        have HA := Lib.hid ham2
        clear ham ham2
        go_wp2
        go_ret2
        exact ⟨HB.out.symm ▸ hb, .inl ⟨HA.out, _, _, rfl, hown⟩⟩
end Go.Proofs.Ytkacgfoglfoaiaa
