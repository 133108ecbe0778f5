import Derived.Test.YtkacgfoglfoaiaaA5
namespace Go.Proofs.Ytkacgfoglfoaiaa
open Go.RowKit
set_option linter.unusedVariables false

theorem owns_below {w w' : World} {base : Nat} {e : TypeId} {size : Nat} {v : Value} {n : Nat} {xs : List Value} (h : w.ownsRow base e size v n xs) (hb : Below w.heap.size w w') : w'.ownsRow base e size v n xs := by
  refine ⟨h.1, ?_⟩
  rcases h.2 with hn | ⟨g, cap, cur, rfl, hB, hg, rest⟩
  · exact .inl hn
  · exact .inr ⟨g, cap, cur, rfl, hB, (hb.block g (Array.getElem?_eq_some_iff.1 hg).1).trans hg, rest⟩

theorem ints_one (k : IntKind) (zs : List Int) : ∀ u ∈ zs.map (Value.int k), u.oneCell' = true := by
  intro u hu
  simp at hu
  obtain ⟨x, _, rfl⟩ := hu
  rfl

/-- What a round of the document's Bytes does. -/
theorem rbytes_round {w wr w0 w1 : World} {B k n m : Nat} {v v' : Value} {xs : List Int} {x : Int} (hx : xs.getD k 0 = x) (hk : k < xs.length) (hB : w.heap.size = B)
    (h1 : w1.ownsRow B 5 1 v' (n + m) ((utfZ (xs.take k)).map (Value.int .u8) ++ (Lib.encodeRuneZ x).map (Value.int .u8))) (hown : wr.ownsRow B 5 1 v n ((utfZ (xs.take k)).map (Value.int .u8)))
    (h0 : Below wr.heap.size wr w0) (hg : w0.grownBy w1 v.ownBlock) (hb : Below B w wr) :
    (w1.ownsRow B 5 1 v' (n + m) ((utfZ (xs.take (k + 1))).map (Value.int .u8))) ∧ Below B w w1 := by
  subst hB
  refine ⟨?_, ?_⟩
  · rw [take_snoc xs k hk, hx, utfZ_snoc, List.map_append]
    exact h1
  · have hsz := hb.size
    have hsz0 := h0.size
    refine (hb.trans (h0.mono hsz)).grown hg (by omega) ?_
    intro j hj
    exact (hown.lt j hj).1

set_option maxHeartbeats 1000000 in
theorem rbytes_any (v : Value) (xs : List Int) (w : World) (hv : Ints .i32 w v xs) (hlen : xs.length ≤ 1000000) :
    Calls Try.prog 9 #[v] w (BytesPost w.heap.size xs w) := by
  obtain ⟨i0, hi, hz0, hz1, hz2⟩ := info_parts info5
  rcases hv with ⟨a, cap, rfl, rfl, hm, _⟩ | ⟨b, off, cap, rfl, h0, h1, hm, hc⟩
  · go_enter Try.func9, Try.ntmps9
    go_wp2
    refine wp_loop_rounds 1 ?_
    rw [rounds_succ]
    go_wp2
    go_ret2
    exact ⟨Below.refl _ _, .inl ⟨rfl, _, _, rfl, World.ownsRow_nil _ _ _ _⟩⟩
  · unfold maxLen at hm
    obtain ⟨B, hB⟩ : ∃ B, w.heap.size = B := ⟨_, rfl⟩
    have hbB : b < B := hB ▸ World.block_lt_of_cell? w _ (hc 0 h0)
    have HB := Lib.hid hB
    rw [hB]
    have hBle : B ≤ w.heap.size := by omega
    clear hB
    go_enter Try.func9, Try.ntmps9
    go_wp2
    go_loopw [4, 5] (fun v i wr => ∃ k n : Nat, k ≤ xs.length ∧ i = .int .i64 k ∧ wr.ownsRow B 5 1 v n ((utfZ (xs.take k)).map (Value.int .u8)) ∧ Hid (allMay (xs.take k) = true) ∧ Below B w wr) (fun _ i _ => xs.length - (intOf i).toNat)
    case atStart => exact ⟨0, 0, Nat.zero_le _, rfl, World.ownsRow_nil _ _ _ _, rfl, Below.refl _ _⟩
    case round =>
      obtain ⟨k, n, hk, rfl, hown, ham, hb⟩ := hrel
      have hsz := hb.size
      have hn : n ≤ 4000000 := by
        have e := hown.1
        have l := utfZ_len (xs.take k)
        have l2 : (xs.take k).length ≤ k := List.length_take_le _ _
        simp at e
        omega
      by_cases hlt : k < xs.length
      · have hcx : wr.cell? ⟨b, off + k, none⟩ = some (.int .i32 (xs.getD k 0)) := (hb.cell (p := ⟨b, off + k, none⟩) hbB).trans (hc k hlt)
        have K1 := Lib.hid (allMay_take xs k hlt ham.out)
        have K2 := Lib.hid (allMay_not xs k hlt)
        obtain ⟨x, hx⟩ : ∃ x, xs.getD k 0 = x := ⟨_, rfl⟩
        rw [hx] at hcx K1 K2
        have HX := Lib.hid hx
        clear hx hc
        cases hmx : mayB x with
        | true =>
          have hr := may_range x hmx
          have K3 := Lib.hid (K1.out hmx)
          clear K1 K2
          go_wp2_with (first
            | (go_at_call 14; refine (rmay_any _ _).mono ?_; rintro e w' ⟨rfl, rfl⟩)
            | (go_at_call 18; refine (one_any _ _ hmx).mono ?_))
          rintro e w0 ⟨hb0, g, m, rfl, hm4, hone⟩
          have hl4 := Lib.encodeRuneZ_length x
          have hown0 := owns_below hown hb0
          have hsz0 := hb0.size
          have HM := Lib.hid hm4
          have hm44 : m ≤ 4 := by omega
          clear hm4 hl4
          go_wp2_with (at_builtin; refine wpList_append_own _ rfl _ _ 23 rfl B 5 i0 (.int .u8 0) 1 1 Try.underlying23 hi hz0 hz1 hz2 rfl (by decide) _ _ _ rfl hown0 ⟨g, 0, none⟩ m m ((Lib.encodeRuneZ x).map (Value.int .u8)) rfl (by rw [HM.out]; simp) (hone.cells rfl) (ints_one _ _) (by unfold maxLen; omega) (by omega) (by omega) ?_; intro v' w1 hown1 hgrow1 _)
          have R := rbytes_round HX.out hlt HB.out hown1 hown hb0 hgrow1 hb
          clear hown1 hgrow1 hown hone hown0
          go_wp2
          go_roundw
          case rel => exact ⟨k + 1, _, by omega, by go_num, R.1, K3.out, R.2⟩
          case measure => simp [intOf]; omega
        | false =>
          have K3 := Lib.hid (K2.out hmx)
          clear K1 K2
          go_wp2_with (go_at_call 14; refine (rmay_any _ _).mono ?_; rintro e w' ⟨rfl, rfl⟩)
          go_ret2
          exact ⟨HB.out.symm ▸ hb, .inr ⟨K3.out, rfl⟩⟩
      · obtain rfl : k = xs.length := by omega
        have ham2 := ham.out
        rw [List.take_of_length_le (Nat.le_refl _)] at ham2 hown
        have HA := Lib.hid ham2
        clear ham ham2
        go_wp2
        go_ret2
        exact ⟨HB.out.symm ▸ hb, .inl ⟨HA.out, _, _, rfl, hown⟩⟩
end Go.Proofs.Ytkacgfoglfoaiaa
