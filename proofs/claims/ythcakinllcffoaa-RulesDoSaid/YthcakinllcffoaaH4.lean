
import Derived.Test.YthcakinllcffoaaH1
/- H4: what is handed on: only, with a function that is handed over; Split, Typed -/
namespace Go.Proofs.Ythcakinllcffoaa
open Go.RowKit
set_option linter.unusedVariables false

/-- What is asked of the function that a key is told to. -/
structure Asks (g : Nat) (F : Key → Bool) : Prop where
  enters : ∀ args w, (callFunc g args).run Try.prog w = .ok (.enter g args) w
  says : ∀ k w, Calls Try.prog g #[kv k] w fun e w' => e = .returned (.bool (F k)) ∧ Below w.heap.size w w'
theorem kbelow_one (w : World) (o : Obj) : Below w.heap.size w (w.alloc o) := (Below.refl _ _).alloc (Nat.le_refl _) _
theorem asks_S : Asks 33 fS := by
  refine ⟨enters_of Try.func33 (by kernel_rfl) rfl, fun k w => ?_⟩
  obtain ⟨k1, k2, k3, k4, k5, k6⟩ := k
  unfold fS
  simp only
  have HB := Lib.hid (kbelow_one w (.cells #[.int .i64 k1, .bool k2, .int .u8 k3, .bool k4, .bool k5, .int .i64 k6] 59))
  cases k2
  · go_enter Try.func33, Try.ntmps33
    go_wp2
    go_ret
    exact ⟨rfl, HB.out⟩
  · go_enter Try.func33, Try.ntmps33
    go_wp2
    go_ret
    exact ⟨rfl, HB.out⟩
theorem asks_A : Asks 34 fA := by
  refine ⟨enters_of Try.func34 (by kernel_rfl) rfl, fun k w => ?_⟩
  obtain ⟨k1, k2, k3, k4, k5, k6⟩ := k
  unfold fA
  simp only
  have HB := Lib.hid (kbelow_one w (.cells #[.int .i64 k1, .bool k2, .int .u8 k3, .bool k4, .bool k5, .int .i64 k6] 59))
  cases k2
  · go_enter Try.func34, Try.ntmps34
    go_wp2
    go_ret
    exact ⟨rfl, HB.out⟩
  · go_enter Try.func34, Try.ntmps34
    go_wp2
    go_ret
    exact ⟨rfl, HB.out⟩
theorem asks_B : Asks 35 fB := by
  refine ⟨enters_of Try.func35 (by kernel_rfl) rfl, fun k w => ?_⟩
  obtain ⟨k1, k2, k3, k4, k5, k6⟩ := k
  unfold fB
  simp only
  have HB := Lib.hid (kbelow_one w (.cells #[.int .i64 k1, .bool k2, .int .u8 k3, .bool k4, .bool k5, .int .i64 k6] 59))
  cases k2
  · go_enter Try.func35, Try.ntmps35
    go_wp2
    go_ret
    exact ⟨rfl, HB.out⟩
  · go_enter Try.func35, Try.ntmps35
    go_wp2
    go_ret
    exact ⟨rfl, HB.out⟩

set_option maxRecDepth 100000 in
set_option maxHeartbeats 2000000 in
theorem only_any (g : Nat) (F : Key → Bool) (hA : Asks g F) (v u : Value) (ks : List Key) (xs : List Att) (w : World) (hs : Sch w v ks) (hv : Arow w u xs) (hW : ∀ a ∈ xs, AttW a) (hl : xs.length ≤ 1000000) :
    Calls Try.prog 32 #[v, u, .func (.func g) #[] #[]] w fun e w' => ∃ u', e = .returned u' ∧ Own5 w w' u' (only ks F xs) ∧ Below w.heap.size w w' := by
  obtain ⟨i0, hi, hz0, hz1, hz2⟩ := info_at
  obtain ⟨a1, cap1, rfl⟩ := hv.shape
  have eg := hA.enters
  have HF := Lib.hid hA.says
  have HS := Lib.hid hs
  clear hs hA
  by_cases h0 : 0 < xs.length
  · obtain ⟨b1, o1, rfl, -, -, -, hbl, hat⟩ := Arow.opn hv h0
    have HAT := Lib.hid hat
    clear hv hat
    go_enter Try.func32, Try.ntmps32
    go_wp2
    go_loopw [7, 14] (fun s7 s14 wr => ∃ k : Nat, k ≤ xs.length ∧ s14 = .int .i64 k ∧ Hid (Grows w (only ks F (xs.take k)) s7 wr)) (fun _ s14 _ => xs.length - (intOf s14).toNat)
    case atStart => exact ⟨0, Nat.zero_le _, rfl, Lib.hid ⟨own5_nil _ _, Below.refl _ _⟩⟩
    case round =>
      obtain ⟨k, hk, rfl, HR⟩ := hrel
      by_cases hlt : k < xs.length
      · obtain ⟨c0, c1, c2, c3, c4⟩ := (HAT.out k hlt).below HR.out.2 hbl
        have hwf := (hW xs[k] (List.getElem_mem hlt)).key
        have HQ := Lib.hid (fun W (hb : Below wr.heap.size wr W) => find_any v ks xs[k].key W ((HS.out.below HR.out.2 (Nat.le_refl _)).below hb (Nat.le_refl _)) hwf)
        have hY := Lib.hid (fun h => only_yes (ks := ks) (f := F) hlt h)
        have hN := Lib.hid (fun h => only_no (ks := ks) (f := F) hlt h)
        have hll : (only ks F (xs.take k)).length ≤ 1000000 := by have := only_le ks F (xs.take k); rw [List.length_take] at this; omega
        have hsz := HR.out.2.size
        unfold okW at hY hN
        unfold fndV at HQ
        clear hwf
        generalize only ks F (xs.take k) = ls at *
        generalize xs[k] = x at *
        have HFk := Lib.hid (fun W => HF.out ((fnd ks x.key).getD noKey) W)
        generalize hkk : (fnd ks x.key).getD noKey = kk at HQ hY hN HFk
        generalize (fnd ks x.key).isSome = bb at HQ hY hN
        clear hkk
        generalize F kk = ff at hY hN HFk
        obtain ⟨x1, x2, x3, x4, x5⟩ := x
        obtain ⟨y1, y2, y3, y4, y5, y6⟩ := kk
        simp only at c0 c1 c2 c3 c4 HQ hY hN
        have HB0 := Lib.hid (kbelow_one wr (.cells #[.int .i64 x1, .int .u8 x2, .int .i64 x3, .int .u64 x4, .string x5] 64))
        have HX := Lib.hid (ABox.box ⟨x1, x2, x3, x4, x5⟩ wr 64)
        cases bb
        · go_wp2_with (go_at_call 27; ((with_reducible refine (HQ.out _ HB0.out).mono ?_); rintro e w1 ⟨rfl, hb1⟩; have HB1 := Lib.hid (below_add HB0.out hb1 (by simp)); clear hb1))
          have HC := Lib.hid (grows_stay HR.out (below_add HB1.out (kbelow_one _ (.cells #[.int .i64 y1, .bool y2, .int .u8 y3, .bool y4, .bool y5, .int .i64 y6] 59)) HB1.out.size))
          go_roundw
          case rel => exact ⟨k + 1, by omega, by go_num, by rw [hN.out rfl]; exact HC⟩
          case measure => simp [intOf]; omega
        · cases ff
          · go_wp2_with (first
              | (go_at_call 27; ((with_reducible refine (HQ.out _ HB0.out).mono ?_); rintro e w1 ⟨rfl, hb1⟩; have HB1 := Lib.hid (below_add (below_add HB0.out hb1 (by simp)) (kbelow_one w1 (.cells #[.int .i64 y1, .bool y2, .int .u8 y3, .bool y4, .bool y5, .int .i64 y6] 59)) (by have := hb1.size; simp at this; omega)); clear hb1))
              | (go_at_fn g; refine (HFk.out _).mono ?_; rintro e w2 ⟨rfl, hb2⟩; have HB2 := Lib.hid (below_add HB1.out hb2 HB1.out.size); clear hb2))
            have HC := Lib.hid (grows_stay HR.out HB2.out)
            go_roundw
            case rel => exact ⟨k + 1, by omega, by go_num, by rw [hN.out rfl]; exact HC⟩
            case measure => simp [intOf]; omega
          · go_wp2_with (first
              | (go_at_call 27; ((with_reducible refine (HQ.out _ HB0.out).mono ?_); rintro e w1 ⟨rfl, hb1⟩; have HB1 := Lib.hid (below_add (below_add HB0.out hb1 (by simp)) (kbelow_one w1 (.cells #[.int .i64 y1, .bool y2, .int .u8 y3, .bool y4, .bool y5, .int .i64 y6] 59)) (by have := hb1.size; simp at this; omega)); have HX1 := Lib.hid ((HX.out.below hb1 (by simp)).below (kbelow_one w1 (.cells #[.int .i64 y1, .bool y2, .int .u8 y3, .bool y4, .bool y5, .int .i64 y6] 59)) (by have := hb1.size; simp at this; omega)); clear hb1))
              | (go_at_fn g; refine (HFk.out _).mono ?_; rintro e w2 ⟨rfl, hb2⟩; have HB2 := Lib.hid (below_add HB1.out hb2 HB1.out.size); obtain ⟨d0, d1, d2, d3, d4⟩ := HX1.out.below hb2 HX1.out.lt; clear hb2)
              | (at_builtin; go_loud (refine wpList_append_row (C := attC) rfl (.tmp 31) (.tmp 33) 24 rfl w.heap.size 64 i0 (av noAtt) 48 Try.underlying24 hi hz0 hz1 hz2 rfl _ _ _ rfl (owns_below HR.out.1 (HB2.out.alloc HB2.out.size _)) _ [⟨x1, x2, x3, x4, x5⟩] rfl (row_new0 w2 ⟨x1, x2, x3, x4, x5⟩ 64) (by unfold maxLen; simp; omega) (by simp; omega) (by have := HB2.out.size; simp; omega) ?_); intro v3 w3 hown3 hgrow3))
            have HC := Lib.hid (grows_more HR.out (HB2.out.alloc HB2.out.size _) hown3 hgrow3)
            go_roundw
            case rel => exact ⟨k + 1, by omega, by go_num, by rw [hY.out rfl]; exact HC⟩
            case measure => simp [intOf]; omega
      · obtain rfl : k = xs.length := by omega
        go_wp2
        go_ret
        have h := HR.out
        rw [only_end] at h
        exact ⟨_, rfl, h⟩
  · obtain rfl : xs = [] := List.eq_nil_of_length_eq_zero (by omega)
    clear hv h0 hl
    go_enter Try.func32, Try.ntmps32
    go_wp2
    refine wp_loop_rounds 1 ?_
    rw [rounds_succ]
    go_wp2
    go_ret
    exact ⟨_, rfl, own5_nil _ _, Below.refl _ _⟩

set_option maxRecDepth 100000 in
/-- What a newline has that is typed in a paragraph of that set. -/
theorem split_any (v u : Value) (ks : List Key) (xs : List Att) (w : World) (hs : Sch w v ks) (hv : Arow w u xs) (hW : ∀ a ∈ xs, AttW a) (hl : xs.length ≤ 1000000) :
    Calls Try.prog 14 #[v, u] w fun e w' => ∃ u', e = .returned u' ∧ Own5 w w' u' (only ks fS xs) ∧ Below w.heap.size w w' := by
  have HO := Lib.hid (only_any _ _ asks_S v u ks xs w hs hv hW hl)
  clear hs hv hW
  go_enter Try.func14, Try.ntmps14
  go_wp2_with (go_at_call 32; refine HO.out.mono ?_; rintro e w1 ⟨u1, rfl, ho1, hb1⟩)
  go_ret
  exact ⟨_, rfl, ho1, hb1⟩

set_option maxRecDepth 100000 in
/-- What a rune has that is typed between two. -/
theorem typed_any (v u1 u2 : Value) (ks : List Key) (l r : List Att) (w : World) (hs : Sch w v ks) (h1 : Arow w u1 l) (h2 : Arow w u2 r) (hl : ∀ a ∈ l, AttW a) (hr : ∀ a ∈ r, AttW a) (nl : l.length ≤ 1000000) (nr : r.length ≤ 1000000) :
    Calls Try.prog 15 #[v, u1, u2] w fun e w' => ∃ u', e = .returned u' ∧ Own5 w w' u' (typ ks l r) ∧ Below w.heap.size w w' := by
  have HA := Lib.hid (only_any _ _ asks_A v u1 ks l w hs h1 hl nl)
  have HB := Lib.hid (fun W (hb : Below w.heap.size w W) => only_any _ _ asks_B v u2 ks r W (hs.below hb (Nat.le_refl _)) (h2.below hb (Nat.le_refl _)) hr nr)
  have HD := Lib.hid (fun W u (h : Arow W u (only ks fA l)) => diff_any (.slice none 0 0) u [] (only ks fA l) W (Row.nil W) h (by have := only_le ks fA l; simp; omega))
  have HP := Lib.hid (fun W u u' (h : Arow W u (only ks fB r)) (h' : Crow W u' (diff6 [] (only ks fA l))) => apply_any u u' (only ks fB r) (diff6 [] (only ks fA l)) W h h' (by have := only_le ks fA l; have := only_le ks fB r; have := diff6_len [] (only ks fA l); simp at this; omega))
  clear hs h1 h2 hl hr nl nr
  go_enter Try.func15, Try.ntmps15
  go_wp2_with (first
    | (go_at_call 32; (with_reducible refine HA.out.mono ?_); rintro e w1 ⟨v1, rfl, ho1, hb1⟩)
    | (go_at_call 32; (with_reducible refine (HB.out _ hb1).mono ?_); rintro e w2 ⟨v2, rfl, ho2, hb2⟩)
    | (go_at_call 36; (with_reducible refine (HD.out _ _ (ho1.row.below hb2 (Nat.le_refl _))).mono ?_); rintro e w3 ⟨v3, rfl, ho3, hb3⟩)
    | (go_at_call 24; (with_reducible refine (HP.out _ _ _ (ho2.row.below hb3 (Nat.le_refl _)) (own6_row ho3)).mono ?_); rintro e w4 ⟨v4, rfl, ho4, hb4⟩))
  go_ret
  have hb12 := below_add hb1 hb2 hb1.size
  have hb13 := below_add hb12 hb3 hb12.size
  exact ⟨_, rfl, owns_mono ho4 hb13.size, below_add hb13 hb4 hb13.size⟩
end Go.Proofs.Ythcakinllcffoaa
