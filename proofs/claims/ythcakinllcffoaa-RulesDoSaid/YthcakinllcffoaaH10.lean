
import Derived.Test.YthcakinllcffoaaH9
/- H10: the reference's Typed -/
namespace Go.Proofs.Ythcakinllcffoaa
open Go.RowKit
set_option linter.unusedVariables false

theorem rtake {xs : List Att} (h : Rise xs) (k : Nat) : Rise (xs.take k) := h.sublist (List.take_sublist _ _)
theorem atake_get {xs : List Att} (h : Rise xs) {k : Nat} (hk : k < xs.length) (j : Int) : getA (xs.take (k + 1)) j = if j = xs[k].key then some xs[k] else getA (xs.take k) j := by
  have hr := rtake h (k + 1)
  split
  · rename_i e
    rw [e]; exact getA_in hr (by rw [atake_snoc hk]; exact List.mem_append.2 (.inr (List.mem_singleton.2 rfl)))
  · rename_i e
    cases hy : getA (xs.take k) j with
    | some b =>
      obtain ⟨h1, h2⟩ := getA_key hy
      rw [← h2]
      exact getA_in hr (by rw [atake_snoc hk]; exact List.mem_append.2 (.inl h1))
    | none =>
      cases hx : getA (xs.take (k + 1)) j with
      | none => rfl
      | some b =>
        obtain ⟨h1, h2⟩ := getA_key hx
        rw [atake_snoc hk] at h1
        rcases List.mem_append.1 h1 with h1 | h1
        · have := getA_in (rtake h k) h1
          rw [h2, hy] at this
          cases this
        · rw [List.mem_singleton] at h1
          rw [h1] at h2
          exact absurd h2.symm e
theorem atake_none {xs : List Att} (h : Rise xs) {k : Nat} (hk : k < xs.length) : getA (xs.take k) xs[k].key = none := by
  cases hx : getA (xs.take k) xs[k].key with
  | none => rfl
  | some b =>
    obtain ⟨h1, h2⟩ := getA_key hx
    have hr := rtake h (k + 1)
    rw [atake_snoc hk] at hr
    have := (List.pairwise_append.1 hr).2.2 b h1 xs[k] (by simp)
    omega
/-- One attribute more, of those that are handed on. -/
theorem only_with {ks : List Key} {f : Key → Bool} {xs : List Att} (h : Rise xs) {k : Nat} (hk : k < xs.length) (hb : okW ks f xs[k].key = true) : with5 (only ks f (xs.take k)) xs[k] = only ks f (xs.take (k + 1)) := by
  refine extA (rise_with _ (only_rise (rtake h k))) (only_rise (rtake h (k + 1))) fun j => ?_
  rw [with_get5 _ (only_rise (rtake h k)), only_get (rtake h k), only_get (rtake h (k + 1)), atake_get h hk]
  by_cases e : j = xs[k].key
  · rw [if_pos e, if_pos e, e, if_pos hb]
  · rw [if_neg e, if_neg e]
theorem typ_zero {ks : List Key} {l : List Att} (hl : Rise l) : typ ks l [] = only ks fA l := by
  refine extA (typ_rise hl rise_nil) (only_rise hl) fun j => ?_
  rw [typ_get hl rise_nil]
  have : getA (only ks fB []) j = none := rfl
  rw [this]
  simp
theorem typ_yes {ks : List Key} {l r : List Att} (hl : Rise l) (hr : Rise r) {k : Nat} (hk : k < r.length) (hb : okW ks fB r[k].key = true) (hn : getA (typ ks l (r.take k)) r[k].key = none) : with5 (typ ks l (r.take k)) r[k] = typ ks l (r.take (k + 1)) := by
  refine extA (rise_with _ (typ_rise hl (rtake hr k))) (typ_rise hl (rtake hr (k + 1))) fun j => ?_
  rw [typ_get hl (rtake hr k)] at hn
  have hn := (Option.or_eq_none_iff.1 hn).1
  rw [with_get5 _ (typ_rise hl (rtake hr k)), typ_get hl (rtake hr k), typ_get hl (rtake hr (k + 1)), only_get (rtake hr k), only_get (rtake hr (k + 1)), atake_get hr hk]
  by_cases e : j = r[k].key
  · rw [if_pos e, if_pos e, e, hn, if_pos hb]
    rfl
  · rw [if_neg e, if_neg e]
theorem typ_no {ks : List Key} {l r : List Att} (hl : Rise l) (hr : Rise r) {k : Nat} (hk : k < r.length) (hb : okW ks fB r[k].key = false ∨ (getA (typ ks l (r.take k)) r[k].key).isSome = true) : typ ks l (r.take k) = typ ks l (r.take (k + 1)) := by
  refine extA (typ_rise hl (rtake hr k)) (typ_rise hl (rtake hr (k + 1))) fun j => ?_
  rw [typ_get hl (rtake hr k)] at hb
  rw [typ_get hl (rtake hr k), typ_get hl (rtake hr (k + 1)), only_get (rtake hr k), only_get (rtake hr (k + 1)), atake_get hr hk]
  by_cases e : j = r[k].key
  · rw [if_pos e, e, atake_none hr hk]
    rcases hb with hb | hb
    · rw [hb]; simp
    · rw [only_get (rtake hr k), atake_none hr hk] at hb
      simp only [ite_self, Option.or_none] at hb
      obtain ⟨x, hx⟩ := Option.isSome_iff_exists.1 hb
      rw [hx]; rfl
  · rw [if_neg e]

set_option maxRecDepth 100000 in
set_option maxHeartbeats 4000000 in
theorem rtyped_any (v u1 u2 : Value) (ks : List Key) (l r : List Att) (w : World) (hk : Krow w v ks) (h1 : Arow w u1 l) (h2 : Arow w u2 r) (hl : Rise l) (hr : Rise r) (hn : l.length + r.length ≤ 1000) :
    Calls Try.prog 22 #[v, u1, u2] w fun e w' => ∃ u', e = .returned u' ∧ Own5 w w' u' (typ ks l r) ∧ Below w.heap.size w w' := by
  have HK := Lib.hid hk
  have H1 := Lib.hid h1
  have H2 := Lib.hid h2
  have HL := Lib.hid hl
  have HR := Lib.hid hr
  obtain ⟨a1, cap1, rfl⟩ := h1.shape
  obtain ⟨a2, cap2, rfl⟩ := h2.shape
  have hl1 := h1.len
  have hl2 := h2.len
  have HZ := Lib.hid (typ_zero (ks := ks) hl)
  clear hk h1 h2 hl hr
  go_enter Try.func22, Try.ntmps22
  go_wp2
  go_loopw [7, 8] (fun s7 s8 wr => ∃ k : Nat, k ≤ l.length ∧ s8 = .int .i64 k ∧ Hid (Grows w (only ks fA (l.take k)) s7 wr)) (fun _ s8 _ => l.length - (intOf s8).toNat)
  case atStart => exact ⟨0, Nat.zero_le _, rfl, Lib.hid ⟨own5_nil _ _, Below.refl _ _⟩⟩
  case round =>
    obtain ⟨k, hk, rfl, HM⟩ := hrel
    by_cases hlt : k < l.length
    · obtain ⟨b1, o1, rfl, -, -, -, hbl, hat⟩ := Arow.opn H1.out (by omega)
      have hA := (hat k hlt).below HM.out.2 hbl
      clear hat
      have HQ := Lib.hid (rfind_any v ks l[k].key wr (HK.out.below HM.out.2 (Nat.le_refl _)))
      have hll : (only ks fA (l.take k)).length ≤ 1000 := by have := only_le ks fA (l.take k); rw [List.length_take] at this; omega
      have HWI := fun u W (h : Arow W u (only ks fA (l.take k))) => rwith_any5 u (only ks fA (l.take k)) l[k] W h hll
      rw [wdone_eq l[k] (only_rise (rtake HL.out k))] at HWI
      have HWI := Lib.hid HWI
      have hY := Lib.hid (fun h => only_with (ks := ks) (f := fA) HL.out hlt h)
      have hN := Lib.hid (fun h => (only_no (ks := ks) (f := fA) hlt h))
      have hsz := HM.out.2.size
      have hblr : b1 < wr.heap.size := by omega
      unfold okW at hY hN
      unfold fndV at HQ
      generalize only ks fA (l.take k) = ls at *
      generalize l[k] = x at *
      generalize (fnd ks x.key).getD noKey = kk at *
      generalize (fnd ks x.key).isSome = bb at *
      obtain ⟨x1, x2, x3, x4, x5⟩ := x
      obtain ⟨y1, y2, y3, y4, y5, y6⟩ := kk
      have HA := Lib.hid hA
      obtain ⟨c0, c1, c2, c3, c4⟩ := hA
      simp only at c0 c1 c2 c3 c4 HQ hY hN
      by_cases hq : (bb && (!y2 && y4)) = true
      · have hb : bb = true ∧ y2 = false ∧ y4 = true := by revert hq; cases bb <;> cases y2 <;> cases y4 <;> simp
        obtain ⟨rfl, rfl, rfl⟩ := hb
        clear hq
        have hy := hY.out rfl
        rw [hy] at HWI
        clear hY hN hy
        go_wp2_with (first
          | (go_at_call 44; ((with_reducible refine HQ.out.mono ?_); rintro e w1 ⟨rfl, hb1⟩; have HB1 := Lib.hid (hb1.alloc hb1.size (.cells #[.int .i64 y1, .bool false, .int .u8 y3, .bool true, .bool y5, .int .i64 y6] 59)); obtain ⟨d0, d1, d2, d3, d4⟩ := HA.out.below HB1.out hblr; simp only at d0 d1 d2 d3 d4; have HR1 := Lib.hid (HM.out.1.row.below HB1.out (Nat.le_refl _)); clear hb1))
          | (go_at_call 47; (with_reducible refine (HWI.out _ _ HR1.out).mono ?_); rintro e w2 ⟨v2, rfl, ho2, hb2⟩; have HB2 := Lib.hid (below_add HB1.out hb2 HB1.out.size); have HO2 := Lib.hid (owns_mono ho2 (Nat.le_trans hsz HB1.out.size)); clear ho2 hb2))
        go_roundw
        case rel => exact ⟨k + 1, by omega, by go_num, Lib.hid ⟨HO2.out, below_add HM.out.2 HB2.out HM.out.2.size⟩⟩
        case measure => simp [intOf]; omega
      · have hq2 : (bb && (!y2 && y4)) = false := by simpa using hq
        have HN1 := Lib.hid (hN.out hq2)
        clear hY hN hq
        cases bb
        · clear hq2
          go_wp2_with (go_at_call 44; ((with_reducible refine HQ.out.mono ?_); rintro e w1 ⟨rfl, hb1⟩; have HB1 := Lib.hid (hb1.alloc hb1.size (.cells #[.int .i64 y1, .bool y2, .int .u8 y3, .bool y4, .bool y5, .int .i64 y6] 59)); clear hb1))
          have HC := Lib.hid (grows_stay HM.out HB1.out)
          go_roundw
          case rel => exact ⟨k + 1, by omega, by go_num, by rw [HN1.out]; exact HC⟩
          case measure => simp [intOf]; omega
        · cases y2
          · obtain rfl : y4 = false := by simpa using hq2
            clear hq2
            go_wp2_with (go_at_call 44; ((with_reducible refine HQ.out.mono ?_); rintro e w1 ⟨rfl, hb1⟩; have HB1 := Lib.hid (hb1.alloc hb1.size (.cells #[.int .i64 y1, .bool false, .int .u8 y3, .bool false, .bool y5, .int .i64 y6] 59)); clear hb1))
            have HC := Lib.hid (grows_stay HM.out HB1.out)
            go_roundw
            case rel => exact ⟨k + 1, by omega, by go_num, by rw [HN1.out]; exact HC⟩
            case measure => simp [intOf]; omega
          · clear hq2
            go_wp2_with (go_at_call 44; ((with_reducible refine HQ.out.mono ?_); rintro e w1 ⟨rfl, hb1⟩; have HB1 := Lib.hid (hb1.alloc hb1.size (.cells #[.int .i64 y1, .bool true, .int .u8 y3, .bool y4, .bool y5, .int .i64 y6] 59)); clear hb1))
            have HC := Lib.hid (grows_stay HM.out HB1.out)
            go_roundw
            case rel => exact ⟨k + 1, by omega, by go_num, by rw [HN1.out]; exact HC⟩
            case measure => simp [intOf]; omega
    · obtain rfl : k = l.length := by omega
      have h := HM.out
      rw [only_end, ← HZ.out] at h
      have HG := Lib.hid (show Grows w (typ ks l (r.take 0)) u7 wr from h)
      clear h HM
      have hl0 := hn
      clear HZ H1
      go_wp2
      go_loopw [7, 11] (fun s7 s11 wr => ∃ k : Nat, k ≤ r.length ∧ s11 = .int .i64 k ∧ Hid (Grows w (typ ks l (r.take k)) s7 wr)) (fun _ s11 _ => r.length - (intOf s11).toNat)
      case atStart => exact ⟨0, Nat.zero_le _, rfl, HG⟩
      case round =>
        obtain ⟨k, hk, rfl, HM⟩ := hrel
        clear HG
        by_cases hlt : k < r.length
        · obtain ⟨b1, o1, rfl, -, -, -, hbl, hat⟩ := Arow.opn H2.out (by omega)
          have hA := (hat k hlt).below HM.out.2 hbl
          clear hat
          have HQ := Lib.hid (rfind_any v ks r[k].key _ (HK.out.below HM.out.2 (Nat.le_refl _)))
          have hll : (typ ks l (r.take k)).length ≤ 1000 := by have := typ_len ks l (r.take k); rw [List.length_take] at this; omega
          have HWI := fun u W (h : Arow W u (typ ks l (r.take k))) => rwith_any5 u (typ ks l (r.take k)) r[k] W h hll
          rw [wdone_eq r[k] (typ_rise HL.out (rtake HR.out k))] at HWI
          have HWI := Lib.hid HWI
          have HGE := Lib.hid (fun u W (h : Arow W u (typ ks l (r.take k))) => rget_any5 u (typ ks l (r.take k)) r[k].key W h)
          have hY := Lib.hid (fun h h' => typ_yes (ks := ks) HL.out HR.out hlt h h')
          have hN := Lib.hid (fun h => (typ_no (ks := ks) HL.out HR.out hlt h))
          have hsz := HM.out.2.size
          have hblr : b1 < wr.heap.size := by omega
          unfold okW at hY hN
          unfold fndV at HQ
          unfold getV at HGE
          generalize typ ks l (r.take k) = ls at *
          generalize r[k] = x at *
          generalize (fnd ks x.key).getD noKey = kk at *
          generalize (fnd ks x.key).isSome = bb at *
          generalize hgg : getA ls x.key = gg at *
          obtain ⟨x1, x2, x3, x4, x5⟩ := x
          obtain ⟨y1, y2, y3, y4, y5, y6⟩ := kk
          have HA := Lib.hid hA
          obtain ⟨c0, c1, c2, c3, c4⟩ := hA
          simp only at c0 c1 c2 c3 c4 HQ hY hN hgg
          clear hgg
          generalize hga : gg.getD noAtt = ga at *
          obtain ⟨g1, g2, g3, g4, g5⟩ := ga
          by_cases hq : (bb && (!y2 && y5)) = true
          · have hb : bb = true ∧ y2 = false ∧ y5 = true := by revert hq; cases bb <;> cases y2 <;> cases y5 <;> simp
            obtain ⟨rfl, rfl, rfl⟩ := hb
            clear hq
            cases gg with
            | none =>
              have hy := hY.out rfl rfl
              rw [hy] at HWI
              simp only [Option.isSome_none] at HGE
              clear hY hN hy
              go_wp2_with (first
                | (go_at_call 44; ((with_reducible refine HQ.out.mono ?_); rintro e w1 ⟨rfl, hb1⟩; have HB1 := Lib.hid (hb1.alloc hb1.size (.cells #[.int .i64 y1, .bool false, .int .u8 y3, .bool y4, .bool true, .int .i64 y6] 59)); have HR1 := Lib.hid (HM.out.1.row.below HB1.out (Nat.le_refl _)); obtain ⟨d0, d1, d2, d3, d4⟩ := HA.out.below HB1.out hblr; simp only at d0 d1 d2 d3 d4; clear hb1))
                | (go_at_call 25; ((with_reducible refine (HGE.out _ _ HR1.out).mono ?_); rintro e w2 ⟨rfl, hb2⟩; have HB2 := Lib.hid (below_add HB1.out (hb2.alloc hb2.size (.cells #[.int .u8 g2, .int .i64 g3, .int .u64 g4, .string g5] 47)) HB1.out.size); obtain ⟨k0, k1, k2, k3, k4, k5⟩ := (KBox.box ⟨y1, false, y3, y4, true, y6⟩ w1 59).below (hb2.alloc hb2.size (.cells #[.int .u8 g2, .int .i64 g3, .int .u64 g4, .string g5] 47)) (by simp); simp only at k0 k1 k2 k3 k4 k5; obtain ⟨e0, e1, e2, e3, e4⟩ := HA.out.below HB2.out hblr; simp only at e0 e1 e2 e3 e4; have HR2 := Lib.hid (HM.out.1.row.below HB2.out (Nat.le_refl _)); clear hb2))
                | (go_at_call 47; (with_reducible refine (HWI.out _ _ HR2.out).mono ?_); rintro e w3 ⟨v3, rfl, ho3, hb3⟩; have HB3 := Lib.hid (below_add HB2.out hb3 HB2.out.size); have HO3 := Lib.hid (owns_mono ho3 (Nat.le_trans hsz HB2.out.size)); clear ho3 hb3))
              go_roundw
              case rel => exact ⟨k + 1, by omega, by go_num, Lib.hid ⟨HO3.out, below_add HM.out.2 HB3.out HM.out.2.size⟩⟩
              case measure => simp [intOf]; omega
            | some gx =>
              have HN1 := Lib.hid (hN.out (.inr rfl)).symm
              simp only [Option.isSome_some] at HGE
              clear hY hN
              go_wp2_with (first
                | (go_at_call 44; ((with_reducible refine HQ.out.mono ?_); rintro e w1 ⟨rfl, hb1⟩; have HB1 := Lib.hid (hb1.alloc hb1.size (.cells #[.int .i64 y1, .bool false, .int .u8 y3, .bool y4, .bool true, .int .i64 y6] 59)); have HR1 := Lib.hid (HM.out.1.row.below HB1.out (Nat.le_refl _)); obtain ⟨d0, d1, d2, d3, d4⟩ := HA.out.below HB1.out hblr; simp only at d0 d1 d2 d3 d4; clear hb1))
                | (go_at_call 25; ((with_reducible refine (HGE.out _ _ HR1.out).mono ?_); rintro e w2 ⟨rfl, hb2⟩; have HB2 := Lib.hid (below_add HB1.out (hb2.alloc hb2.size (.cells #[.int .u8 g2, .int .i64 g3, .int .u64 g4, .string g5] 47)) HB1.out.size); obtain ⟨k0, k1, k2, k3, k4, k5⟩ := (KBox.box ⟨y1, false, y3, y4, true, y6⟩ w1 59).below (hb2.alloc hb2.size (.cells #[.int .u8 g2, .int .i64 g3, .int .u64 g4, .string g5] 47)) (by simp); simp only at k0 k1 k2 k3 k4 k5; clear hb2)))
              have HC := Lib.hid (grows_stay HM.out HB2.out)
              go_roundw
              case rel => exact ⟨k + 1, by omega, by go_num, by rw [HN1.out]; exact HC⟩
              case measure => simp [intOf]; omega
          · have hq2 : (bb && (!y2 && y5)) = false := by simpa using hq
            have HN1 := Lib.hid (hN.out (.inl hq2)).symm
            clear hY hN hq
            generalize gg.isSome = gb at *
            cases bb
            · clear hq2
              go_wp2_with (first
                | (go_at_call 44; ((with_reducible refine HQ.out.mono ?_); rintro e w1 ⟨rfl, hb1⟩; have HB1 := Lib.hid (hb1.alloc hb1.size (.cells #[.int .i64 y1, .bool y2, .int .u8 y3, .bool y4, .bool y5, .int .i64 y6] 59)); have HR1 := Lib.hid (HM.out.1.row.below HB1.out (Nat.le_refl _)); obtain ⟨d0, d1, d2, d3, d4⟩ := HA.out.below HB1.out hblr; simp only at d0 d1 d2 d3 d4; clear hb1))
                | (go_at_call 25; ((with_reducible refine (HGE.out _ _ HR1.out).mono ?_); rintro e w2 ⟨rfl, hb2⟩; have HB2 := Lib.hid (below_add HB1.out (hb2.alloc hb2.size (.cells #[.int .u8 g2, .int .i64 g3, .int .u64 g4, .string g5] 47)) HB1.out.size); obtain ⟨k0, k1, k2, k3, k4, k5⟩ := (KBox.box ⟨y1, y2, y3, y4, y5, y6⟩ w1 59).below (hb2.alloc hb2.size (.cells #[.int .u8 g2, .int .i64 g3, .int .u64 g4, .string g5] 47)) (by simp); simp only at k0 k1 k2 k3 k4 k5; clear hb2)))
              have HC := Lib.hid (grows_stay HM.out HB2.out)
              go_roundw
              case rel => exact ⟨k + 1, by omega, by go_num, by rw [HN1.out]; exact HC⟩
              case measure => simp [intOf]; omega
            · cases y2
              · obtain rfl : y5 = false := by simpa using hq2
                clear hq2
                go_wp2_with (first
                  | (go_at_call 44; ((with_reducible refine HQ.out.mono ?_); rintro e w1 ⟨rfl, hb1⟩; have HB1 := Lib.hid (hb1.alloc hb1.size (.cells #[.int .i64 y1, .bool false, .int .u8 y3, .bool y4, .bool false, .int .i64 y6] 59)); have HR1 := Lib.hid (HM.out.1.row.below HB1.out (Nat.le_refl _)); obtain ⟨d0, d1, d2, d3, d4⟩ := HA.out.below HB1.out hblr; simp only at d0 d1 d2 d3 d4; clear hb1))
                  | (go_at_call 25; ((with_reducible refine (HGE.out _ _ HR1.out).mono ?_); rintro e w2 ⟨rfl, hb2⟩; have HB2 := Lib.hid (below_add HB1.out (hb2.alloc hb2.size (.cells #[.int .u8 g2, .int .i64 g3, .int .u64 g4, .string g5] 47)) HB1.out.size); obtain ⟨k0, k1, k2, k3, k4, k5⟩ := (KBox.box ⟨y1, false, y3, y4, false, y6⟩ w1 59).below (hb2.alloc hb2.size (.cells #[.int .u8 g2, .int .i64 g3, .int .u64 g4, .string g5] 47)) (by simp); simp only at k0 k1 k2 k3 k4 k5; clear hb2)))
                have HC := Lib.hid (grows_stay HM.out HB2.out)
                go_roundw
                case rel => exact ⟨k + 1, by omega, by go_num, by rw [HN1.out]; exact HC⟩
                case measure => simp [intOf]; omega
              · clear hq2
                go_wp2_with (first
                  | (go_at_call 44; ((with_reducible refine HQ.out.mono ?_); rintro e w1 ⟨rfl, hb1⟩; have HB1 := Lib.hid (hb1.alloc hb1.size (.cells #[.int .i64 y1, .bool true, .int .u8 y3, .bool y4, .bool y5, .int .i64 y6] 59)); have HR1 := Lib.hid (HM.out.1.row.below HB1.out (Nat.le_refl _)); obtain ⟨d0, d1, d2, d3, d4⟩ := HA.out.below HB1.out hblr; simp only at d0 d1 d2 d3 d4; clear hb1))
                  | (go_at_call 25; ((with_reducible refine (HGE.out _ _ HR1.out).mono ?_); rintro e w2 ⟨rfl, hb2⟩; have HB2 := Lib.hid (below_add HB1.out (hb2.alloc hb2.size (.cells #[.int .u8 g2, .int .i64 g3, .int .u64 g4, .string g5] 47)) HB1.out.size); obtain ⟨k0, k1, k2, k3, k4, k5⟩ := (KBox.box ⟨y1, true, y3, y4, y5, y6⟩ w1 59).below (hb2.alloc hb2.size (.cells #[.int .u8 g2, .int .i64 g3, .int .u64 g4, .string g5] 47)) (by simp); simp only at k0 k1 k2 k3 k4 k5; clear hb2)))
                have HC := Lib.hid (grows_stay HM.out HB2.out)
                go_roundw
                case rel => exact ⟨k + 1, by omega, by go_num, by rw [HN1.out]; exact HC⟩
                case measure => simp [intOf]; omega
        · obtain rfl : k = r.length := by omega
          go_wp2
          go_ret
          have h := HM.out
          rw [tend] at h
          exact ⟨_, rfl, h⟩
end Go.Proofs.Ythcakinllcffoaa
