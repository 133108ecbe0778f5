
import Derived.Test.YthcakinllcffoaaH7
/- H9: the reference's Split, Typed -/
namespace Go.Proofs.Ythcakinllcffoaa
open Go.RowKit
set_option linter.unusedVariables false

set_option maxRecDepth 100000 in
set_option maxHeartbeats 2000000 in
theorem rsplit_any (v u : Value) (ks : List Key) (xs : List Att) (w : World) (hk : Krow w v ks) (hv : Arow w u xs) (hl : xs.length ≤ 1000000) :
    Calls Try.prog 21 #[v, u] w fun e w' => ∃ u', e = .returned u' ∧ Own5 w w' u' (only ks fS xs) ∧ Below w.heap.size w w' := by
  obtain ⟨i0, hi, hz0, hz1, hz2⟩ := info_at
  obtain ⟨a1, cap1, rfl⟩ := hv.shape
  have HK := Lib.hid hk
  clear hk
  by_cases h0 : 0 < xs.length
  · obtain ⟨b1, o1, rfl, -, -, -, hbl, hat⟩ := Arow.opn hv h0
    have HAT := Lib.hid hat
    clear hv hat
    go_enter Try.func21, Try.ntmps21
    go_wp2
    go_loopw [5, 6] (fun s5 s6 wr => ∃ k : Nat, k ≤ xs.length ∧ s6 = .int .i64 k ∧ Hid (Grows w (only ks fS (xs.take k)) s5 wr)) (fun _ s6 _ => xs.length - (intOf s6).toNat)
    case atStart => exact ⟨0, Nat.zero_le _, rfl, Lib.hid ⟨own5_nil _ _, Below.refl _ _⟩⟩
    case round =>
      obtain ⟨k, hk, rfl, HR⟩ := hrel
      by_cases hlt : k < xs.length
      · have hA := (HAT.out k hlt).below HR.out.2 hbl
        have HQ := Lib.hid (rfind_any v ks xs[k].key wr (HK.out.below HR.out.2 (Nat.le_refl _)))
        have hY := Lib.hid (fun h => only_yes (ks := ks) (f := fS) hlt h)
        have hN := Lib.hid (fun h => only_no (ks := ks) (f := fS) hlt h)
        have hll : (only ks fS (xs.take k)).length ≤ 1000000 := by have := only_le ks fS (xs.take k); rw [List.length_take] at this; omega
        have hsz := HR.out.2.size
        have hblr : b1 < wr.heap.size := by omega
        unfold okW at hY hN
        unfold fndV at HQ
        generalize hls : only ks fS (xs.take k) = ls at *
        have hY := Lib.hid (fun h => (hY.out h))
        generalize xs[k] = x at *
        generalize (fnd ks x.key).getD noKey = kk at *
        generalize (fnd ks x.key).isSome = bb at *
        obtain ⟨x1, x2, x3, x4, x5⟩ := x
        obtain ⟨y1, y2, y3, y4, y5, y6⟩ := kk
        have HA := Lib.hid hA
        obtain ⟨c0, c1, c2, c3, c4⟩ := hA
        simp only at c0 c1 c2 c3 c4 HQ hY hN
        clear hls
        by_cases hq : (bb && (y2 && y4)) = true
        · have hb : bb = true ∧ y2 = true ∧ y4 = true := by revert hq; cases bb <;> cases y2 <;> cases y4 <;> simp
          obtain ⟨rfl, rfl, rfl⟩ := hb
          clear hq
          go_wp2_with (first
            | (go_at_call 44; ((with_reducible refine HQ.out.mono ?_); rintro e w1 ⟨rfl, hb1⟩; have HB1 := Lib.hid (hb1.alloc hb1.size (.cells #[.int .i64 y1, .bool true, .int .u8 y3, .bool true, .bool y5, .int .i64 y6] 59)); obtain ⟨d0, d1, d2, d3, d4⟩ := HA.out.below HB1.out hblr; simp only at d0 d1 d2 d3 d4; clear hb1))
            | (at_builtin; go_loud (refine wpList_append_row (C := attC) rfl (.tmp 34) (.tmp 39) 24 rfl w.heap.size 64 i0 (av noAtt) 48 Try.underlying24 hi hz0 hz1 hz2 rfl _ _ _ rfl (owns_below HR.out.1 (HB1.out.alloc HB1.out.size _)) _ [⟨x1, x2, x3, x4, x5⟩] rfl (row_new1 w1 _ ⟨x1, x2, x3, x4, x5⟩ 64) (by unfold maxLen; simp; omega) (by simp; omega) (by have := HB1.out.size; simp at this ⊢; omega) ?_); intro v3 w3 hown3 hgrow3))
          have HC := Lib.hid (grows_more HR.out (HB1.out.alloc HB1.out.size _) hown3 hgrow3)
          go_roundw
          case rel => exact ⟨k + 1, by omega, by go_num, by rw [hY.out rfl]; exact HC⟩
          case measure => simp [intOf]; omega
        · have hq2 : (bb && (y2 && y4)) = false := by simpa using hq
          have HS := Lib.hid (hN.out hq2)
          clear hY hN hq
          cases bb
          · clear hq2
            go_wp2_with (go_at_call 44; ((with_reducible refine HQ.out.mono ?_); rintro e w1 ⟨rfl, hb1⟩; have HB1 := Lib.hid (hb1.alloc hb1.size (.cells #[.int .i64 y1, .bool y2, .int .u8 y3, .bool y4, .bool y5, .int .i64 y6] 59)); clear hb1))
            have HC := Lib.hid (grows_stay HR.out HB1.out)
            go_roundw
            case rel => exact ⟨k + 1, by omega, by go_num, by rw [HS.out]; exact HC⟩
            case measure => simp [intOf]; omega
          · cases y2
            · clear hq2
              go_wp2_with (go_at_call 44; ((with_reducible refine HQ.out.mono ?_); rintro e w1 ⟨rfl, hb1⟩; have HB1 := Lib.hid (hb1.alloc hb1.size (.cells #[.int .i64 y1, .bool false, .int .u8 y3, .bool y4, .bool y5, .int .i64 y6] 59)); clear hb1))
              have HC := Lib.hid (grows_stay HR.out HB1.out)
              go_roundw
              case rel => exact ⟨k + 1, by omega, by go_num, by rw [HS.out]; exact HC⟩
              case measure => simp [intOf]; omega
            · obtain rfl : y4 = false := by simpa using hq2
              clear hq2
              go_wp2_with (go_at_call 44; ((with_reducible refine HQ.out.mono ?_); rintro e w1 ⟨rfl, hb1⟩; have HB1 := Lib.hid (hb1.alloc hb1.size (.cells #[.int .i64 y1, .bool true, .int .u8 y3, .bool false, .bool y5, .int .i64 y6] 59)); clear hb1))
              have HC := Lib.hid (grows_stay HR.out HB1.out)
              go_roundw
              case rel => exact ⟨k + 1, by omega, by go_num, by rw [HS.out]; exact HC⟩
              case measure => simp [intOf]; omega
      · obtain rfl : k = xs.length := by omega
        go_wp2
        go_ret
        have h := HR.out
        rw [only_end] at h
        exact ⟨_, rfl, h⟩
  · obtain rfl : xs = [] := List.eq_nil_of_length_eq_zero (by omega)
    clear hv h0 hl
    go_enter Try.func21, Try.ntmps21
    go_wp2
    refine wp_loop_rounds 1 ?_
    rw [rounds_succ]
    go_wp2
    go_ret
    exact ⟨_, rfl, own5_nil _ _, Below.refl _ _⟩
end Go.Proofs.Ythcakinllcffoaa
