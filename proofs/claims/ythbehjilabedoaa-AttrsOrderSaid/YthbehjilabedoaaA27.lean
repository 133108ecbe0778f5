
import Derived.Test.YthbehjilabedoaaA26
import Derived.Test.YthbehjilabedoaaA24
/- A27: AttrsOrder -/
namespace Go.Proofs.Ythbehjilabedoaa
open Go.RowKit
set_option linter.unusedVariables false

theorem order_early (u1 : Value) (xs : List Att) (key : Int) (w : World) (h1 : Arow w u1 xs) (hn : ¬ (xs.length ≤ 40 ∧ ¬ great5 xs)) :
    Calls Try.prog 4 #[u1, .int .i64 key] w fun e w' => e = .returned (.bool true) ∧ Below w.heap.size w w' := by
  have HK := Lib.hid (fun w => known_any5 w)
  have hg1 := great_any u1 xs _ h1
  have hl := h1.len
  obtain ⟨a1, cap1, rfl⟩ := h1.shape
  by_cases q1 : xs.length ≤ 40
  · have d1 : decide ((40 : Int) < (xs.length : Int)) = false := by rw [decide_eq_false_iff_not]; omega
    have hg : great5 xs := Classical.byContradiction fun h => hn ⟨q1, h⟩
    rw [decide_eq_true hg] at hg1
    have HG1 := Lib.hid hg1
    clear hg1 hn q1 hg h1
    go_enter Try.func4, Try.ntmps4
    go_wp2_with (first
      | (go_at_call 8; with_reducible (refine HG1.out.mono ?_); rintro e w8 ⟨rfl, rfl⟩)
      | (go_at_call 9; refine (HK.out _).mono ?_; rintro e w9 ⟨rfl, hb9⟩))
    go_ret
    exact ⟨rfl, hb9⟩
  · have d1 : decide ((40 : Int) < (xs.length : Int)) = true := by rw [decide_eq_true_iff]; omega
    clear hg1 hn q1 h1
    go_enter Try.func4, Try.ntmps4
    go_wp2_with (go_at_call 9; refine (HK.out _).mono ?_; rintro e w9 ⟨rfl, hb9⟩)
    go_ret
    exact ⟨rfl, hb9⟩

theorem putA_pos {xs : List Att} (h : 0 < xs.length) : 0 < (putA xs).length := by
  have hne : xs ≠ [] := fun e => by rw [e] at h; simp at h
  have e := List.dropLast_concat_getLast hne
  rw [← e, putA_app]
  exact List.length_pos_of_mem (with_mem.2 (.inl rfl))
theorem take_rev (xs : List Att) : xs.reverse.take xs.length = xs.reverse := List.take_of_length_le (by simp)
/-- The worlds of the third loop's test. -/
def OrC (B b o o2 : Nat) (x y : Att) (two : Bool) (W W' : World) : Prop := At B x.k x.n x.f x.s W' ∧ AAt b o x W' ∧ (two = true → AAt b o2 y W') ∧ Below W.heap.size W W'
theorem OrC.below {B b o o2 : Nat} {x y : Att} {two : Bool} {W w w' : World} (h : OrC B b o o2 x y two W w) (hb : Below w.heap.size w w') : OrC B b o o2 x y two W w' :=
  ⟨h.1.below hb, h.2.1.below hb (World.block_lt_of_cell? _ _ h.2.1.1), fun ht => (h.2.2.1 ht).below hb (World.block_lt_of_cell? _ _ h.2.1.1), below_add h.2.2.2 hb h.2.2.2.size⟩
theorem OrC.one {B b o : Nat} {x : Att} {W : World} (h1 : At B x.k x.n x.f x.s W) (h2 : AAt b o x W) : OrC B b o o x x false W W := ⟨h1, h2, fun h => absurd h Bool.false_ne_true, Below.refl _ _⟩
theorem OrC.two {B b o o2 : Nat} {x y : Att} {W : World} (h1 : At B x.k x.n x.f x.s W) (h2 : AAt b o x W) (h3 : AAt b o2 y W) : OrC B b o o2 x y true W W := ⟨h1, h2, fun _ => h3, Below.refl _ _⟩
theorem rise_lt {xs : List Att} (hr : Rise xs) {j : Nat} (h : j + 1 < xs.length) : xs[j].key < xs[j + 1].key := List.pairwise_iff_getElem.1 hr j (j + 1) (by omega) h (by omega)

set_option maxRecDepth 100000 in
set_option maxHeartbeats 2000000 in
theorem order_main (a1 : Option Addr) (cap1 : Nat) (xs : List Att) (key : Int) (w : World) (h1 : Arow w (.slice a1 xs.length cap1) xs) (hl40 : xs.length ≤ 40) (hg1 : ¬ great5 xs) (h0 : 0 < xs.length) :
    Calls Try.prog 4 #[.slice a1 xs.length cap1, .int .i64 key] w fun e w' => e = .returned (.bool true) ∧ Below w.heap.size w w' := by
  have HK := Lib.hid (fun w => known_any5 w)
  have rg := great_any _ xs _ h1
  rw [decide_eq_false hg1] at rg
  have HG1 := Lib.hid rg
  have d1 : decide ((40 : Int) < (xs.length : Int)) = false := by rw [decide_eq_false_iff_not]; omega
  obtain ⟨b1, o1, rfl, -, -, -, hbl, hat⟩ := Arow.opn h1 h0
  have HAT := Lib.hid hat
  clear rg h1 hg1 hat
  have HPA := Lib.hid (fun k (hk : k ≤ xs.length) (v : Value) (a : Att) w hv => with_both v (putA (xs.take k)) a (putA_rise _) (by have := putA_len (xs.take k); rw [List.length_take] at this; omega) w hv)
  have HPS := Lib.hid (fun k (hk : k < xs.length) => putA_snoc hk)
  go_enter Try.func4, Try.ntmps4
  go_wp2_with (go_at_call 8; with_reducible (refine HG1.out.mono ?_); rintro e w8 ⟨rfl, rfl⟩)
  go_loopw [5, 31] (fun s5 s31 wr => ∃ k : Nat, k ≤ xs.length ∧ s31 = .int .i64 k ∧ Hid (Arow wr s5 (putA (xs.take k))) ∧ Below w.heap.size w wr) (fun _ s31 _ => xs.length - (intOf s31).toNat)
  case atStart => exact ⟨0, Nat.zero_le _, rfl, Lib.hid (Row.nil w), Below.refl _ _⟩
  case round =>
    obtain ⟨k, hk, rfl, HL, hb⟩ := hrel
    by_cases hlt : k < xs.length
    · obtain ⟨c0, c1, c2, c3, c4⟩ := (HAT.out k hlt).below hb hbl
      have HWI := Lib.hid (fun v a w hv => HPA.out k hk v a w hv)
      have HSN := Lib.hid (HPS.out k hlt)
      generalize xs[k] = x at *
      obtain ⟨x1, x2, x3, x4, x5⟩ := x
      simp only at c0 c1 c2 c3 c4
      go_wp2_with (go_at_call 19; refine (HWI.out _ ⟨x1, x2, x3, x4, x5⟩ _ HL.out).mono ?_; rintro e w6 ⟨u6, rfl, HR6, hb6⟩)
      go_roundw
      case rel => exact ⟨k + 1, by omega, by go_num, by rw [HSN.out]; exact HR6, below_add hb hb6 hb.size⟩
      case measure => simp [intOf]; omega
    · obtain rfl : k = xs.length := by omega
      rw [List.take_of_length_le (Nat.le_refl _)] at HL
      have HB1 := Lib.hid hb
      clear HPA HPS hb
      have hal := putA_len xs
      obtain ⟨av1, ac1, rfl⟩ := HL.out.shape
      have HPN := Lib.hid (fun k (hk : k ≤ xs.length) (v : Value) (a : Att) w hv => with_both v (putN (xs.reverse.take k)) a (putN_rise _) (by have := putN_len (xs.reverse.take k); rw [List.length_take, List.length_reverse] at this; omega) w hv)
      have HGN := Lib.hid (fun k (hk : k ≤ xs.length) (v : Value) (key : Int) w hv => get_rise v (putN (xs.reverse.take k)) key (putN_rise _) w hv (by have := putN_len (xs.reverse.take k); rw [List.length_take, List.length_reverse] at this; omega))
      have HNS := Lib.hid (fun k (hk : k < xs.length) => (by have := putN_snoc (l := xs.reverse) (k := k) (by simpa using hk); rw [back_att hk] at this; exact this : putN (xs.reverse.take (k + 1)) = newA (putN (xs.reverse.take k)) (xs[xs.length - 1 - k]'(by omega))))
      obtain ⟨WA, hWA⟩ : ∃ x, x = wr := ⟨wr, rfl⟩
      subst hWA
      go_wp2_with fail
      go_loopw [6, 43] (fun s6 s43 wr => ∃ k : Nat, k ≤ xs.length ∧ s43 = .int .i64 k ∧ Hid (Arow wr s6 (putN (xs.reverse.take k))) ∧ Below WA.heap.size WA wr) (fun _ s43 _ => xs.length - (intOf s43).toNat)
      case atStart => exact ⟨0, Nat.zero_le _, rfl, Lib.hid (Row.nil WA), Below.refl _ _⟩
      case round =>
        obtain ⟨k, hk, rfl, HLB, hb⟩ := hrel
        by_cases hlt : k < xs.length
        · have hjj : xs.length - 1 - k < xs.length := by omega
          have hbw := below_add HB1.out hb HB1.out.size
          obtain ⟨c0, c1, c2, c3, c4⟩ := (HAT.out _ hjj).below hbw hbl
          have HWI := Lib.hid (fun v a w hv => HPN.out k hk v a w hv)
          have HGI := Lib.hid (fun v key w hv => HGN.out k hk v key w hv)
          have HSN := Lib.hid (HNS.out k hlt)
          have HBR := Lib.hid hb
          clear hbw hb
          generalize xs[xs.length - 1 - k] = x at *
          obtain ⟨x1, x2, x3, x4, x5⟩ := x
          simp only at c0 c1 c2 c3 c4
          have q1 : (xs.length : Int) - 1 - (k : Int) = ((xs.length - 1 - k : Nat) : Int) := by omega
          have hbx := ABox.box ⟨x1, x2, x3, x4, x5⟩ wr 28
          have hB1 := (Below.refl wr.heap.size wr).alloc (Nat.le_refl _) (.cells (aca ⟨x1, x2, x3, x4, x5⟩) 28)
          have hgx := HGI.out u6 x1 _ (HLB.out.below hB1 (Nat.le_refl _))
          generalize hls : putN (xs.reverse.take k) = ls at *
          cases hf : getA ls x1 with
          | some b =>
            rw [getV_some hf] at hgx
            have HGX := Lib.hid hgx
            have HSN2 := Lib.hid (show putN (xs.reverse.take (k + 1)) = ls by rw [HSN.out]; exact newA_yes hf)
            have HLB2 := Lib.hid (fun w2 (hb : Below wr.heap.size wr w2) => HLB.out.below hb (Nat.le_refl _))
            have HWAB := Lib.hid (fun w2 (hb : Below wr.heap.size wr w2) => below_add HBR.out hb HBR.out.size)
            clear hgx hf HSN hbx hls
            go_wp2_with (go_at_call 18; with_reducible (refine HGX.out.mono ?_); rintro e w9 ⟨rfl, hb9⟩)
            have hbf := Lib.hid ((below_add hB1 hb9 hB1.size).alloc (below_add hB1 hb9 hB1.size).size (.cells (vcells b.k b.n b.f b.s) 26))
            go_roundw
            case rel => exact ⟨k + 1, by omega, by go_num, by rw [HSN2.out]; exact Lib.hid (HLB2.out _ hbf.out), HWAB.out _ hbf.out⟩
            case measure => simp [intOf]; omega
          | none =>
            rw [getV_none hf] at hgx
            have HGX := Lib.hid hgx
            have HSN2 := Lib.hid (show putN (xs.reverse.take (k + 1)) = with5 ls ⟨x1, x2, x3, x4, x5⟩ by rw [HSN.out]; exact newA_no hf)
            have HWAB := Lib.hid (fun w2 (hb : Below wr.heap.size wr w2) => below_add HBR.out hb HBR.out.size)
            clear hgx hf HSN hls
            go_wp2_with (go_at_call 18; with_reducible (refine HGX.out.mono ?_))
            rintro e w9 ⟨rfl, hb9⟩
            have hb19 := below_add hB1 hb9 hB1.size
            have hbf := hb19.alloc hb19.size (.cells (vcells 0 0 0 ⟨#[]⟩) 26)
            have HLB3 := Lib.hid (HLB.out.below hbf (Nat.le_refl _))
            obtain ⟨g0, g1, g2, g3, g4⟩ := (hbx.below hb9 (by simp)).below ((Below.refl w9.heap.size w9).alloc (Nat.le_refl _) (.cells (vcells 0 0 0 ⟨#[]⟩) 26)) (by have := hb9.size; simp at this; omega)
            have HBF := Lib.hid hbf
            clear hb19 hbf hb9
            go_wp2_with (go_at_call 19; with_reducible (refine (HWI.out _ ⟨x1, x2, x3, x4, x5⟩ _ HLB3.out).mono ?_); rintro e w10 ⟨u10, rfl, HR10, hb10⟩)
            go_roundw
            case rel => exact ⟨k + 1, by omega, by go_num, by rw [HSN2.out]; exact HR10, HWAB.out _ (below_add HBF.out hb10 HBF.out.size)⟩
            case measure => simp [intOf]; omega
        · obtain rfl : k = xs.length := by omega
          rw [take_rev, ← put_both] at HLB
          have HB2 := Lib.hid (below_add HB1.out hb HB1.out.size)
          have HLA := Lib.hid (HL.out.below hb (Nat.le_refl _))
          clear HPN HGN HNS hb HL HB1
          have hpos := putA_pos h0
          have hr := putA_rise xs
          generalize putA xs = zs at *
          have HSS := Lib.hid (fun v1 v2 w h1 h2 => same_yes v1 v2 zs w h1 h2)
          have HGT := Lib.hid (fun v key w hv => get_rise v zs key hr w hv (by omega))
          have HWO := Lib.hid (fun v key w hv => without_both v zs key hr (by omega) w hv)
          have HGW := Lib.hid (fun v key w hv => get_rise v (without5 zs key) key (rise_without key hr) w hv (by have := without_len key hr; omega))
          have HRI := Lib.hid hr
          clear hr
          go_wp2_with (go_at_call 14; with_reducible (refine (HSS.out _ _ _ HLA.out HLB.out).mono ?_); rintro e w11 ⟨rfl, hb11⟩)
          have HLC := Lib.hid (HLA.out.below hb11 (Nat.le_refl _))
          have HB3 := Lib.hid (below_add HB2.out hb11 HB2.out.size)
          clear hb11 HLA HLB HB2 HSS
          obtain ⟨b3, o3, rfl, -, -, -, hbl3, hat3⟩ := Arow.opn HLC.out hpos
          have HAT3 := Lib.hid hat3
          clear hat3
          go_loopw [73] (fun s73 wr => ∃ k : Nat, k ≤ zs.length ∧ s73 = .int .i64 k ∧ Below w11.heap.size w11 wr) (fun s73 _ => zs.length - (intOf s73).toNat)
          case atStart => exact ⟨0, Nat.zero_le _, rfl, Below.refl _ _⟩
          case round =>
            obtain ⟨k, hk, rfl, hb⟩ := hrel
            by_cases hlt : k < zs.length
            · have hAT := (HAT3.out k hlt).below hb hbl3
              have hgx := HGT.out _ zs[k].key wr (HLC.out.below hb (Nat.le_refl _))
              rw [getV_some (getA_mem HRI.out (List.getElem_mem hlt))] at hgx
              have HGX := Lib.hid hgx
              have HBR := Lib.hid hb
              have HXY := Lib.hid hAT
              clear hgx
              obtain ⟨c0, -, -, -, -⟩ := hAT
              cases k with
              | zero =>
                generalize zs[0] = x at *
                have hq := fun w => val_neq_self x.k x.n x.f x.s w
                simp only [Nat.zero_mul, Nat.add_zero] at c0 HXY
                clear hb
                go_wp2_with (go_at_call 18; with_reducible (refine HGX.out.mono ?_); rintro e w12 ⟨rfl, hb12⟩)
                have hbq := hb12.alloc hb12.size (.cells (vcells x.k x.n x.f x.s) 26)
                have HC0 := Lib.hid (OrC.one (At.box x.k x.n x.f x.s w12 26) (HXY.out.below hbq (World.block_lt_of_cell? _ _ HXY.out.1)))
                have HBQ := Lib.hid (below_add HBR.out hbq HBR.out.size)
                clear c0 hbq hb12 HGX
                refine region_classw (C := OrC w12.heap.size b3 o3 o3 x x false (w12.alloc (.cells (vcells x.k x.n x.f x.s) 26))) (by kernel_rfl) (by kernel_rfl) (HC0.out.below (Below.refl _ _).drew) ?_
                repeat (first
                  | (first
                       | refine w_skip (by rfl) (by rfl) ?_
                       | refine w_skipn (by rfl) (by rfl) ?_
                     simp only [Act.put, List.setIfInBounds_toArray, List.set_cons_zero, List.set_cons_succ])
                  | (first
                       | refine w_val (v := ?_) (by rfl) (fun w9 hS => ?_) ?_
                       | refine w_valg (v := ?_) (by rfl) (by rfl) (fun w9 hS => ?_) ?_
                     rotate_left
                     · obtain ⟨⟨f0, f1, f2, f3⟩, ⟨g0, g1, g2, g3, g4⟩, hy, -⟩ := hS
                       go_simp
                       try with_reducible rfl
                     simp only [Act.put, List.setIfInBounds_toArray, List.set_cons_zero, List.set_cons_succ]))
                refine w_end ?_
                intro w5 T5
                have HT := Lib.hid (below_add HBQ.out T5.2.2.2 HBQ.out.size)
                clear T5
                go_wp2_with fail
                go_roundw
                case rel => exact ⟨0 + 1, by omega, by go_num, HT.out⟩
                case measure => simp [intOf]; omega
              | succ j =>
                have hjl : j < zs.length := by omega
                have HYY := Lib.hid ((HAT3.out j hjl).below HBR.out hbl3)
                have hlt5 := rise_lt HRI.out hlt
                have hj1 : ((j + 1 : Nat) : Int) = (j : Int) + 1 := by omega
                have hwr : IntKind.i64.wrap (j : Int) = (j : Int) := by rw [IntKind.wrap_i64]; omega
                have hi1 : (j : Int) + 1 < (zs.length : Int) := by omega
                have hi2 : (0 : Int) ≤ (j : Int) + 1 := by omega
                have hi3 : (j : Int) < (zs.length : Int) := by omega
                have hi4 : ((j : Int) + 1).toNat = j + 1 := by omega
                rw [hj1]
                generalize zs[j + 1] = x at *
                generalize zs[j] = y at *
                have e1 : decide (x.key ≤ y.key) = false := by rw [decide_eq_false_iff_not]; omega
                have hq := fun w => val_neq_self x.k x.n x.f x.s w
                clear hb hlt5
                go_wp2_with (go_at_call 18; with_reducible (refine HGX.out.mono ?_); rintro e w12 ⟨rfl, hb12⟩)
                have hbq := hb12.alloc hb12.size (.cells (vcells x.k x.n x.f x.s) 26)
                have HC0 := Lib.hid (OrC.two (At.box x.k x.n x.f x.s w12 26) (HXY.out.below hbq (World.block_lt_of_cell? _ _ HXY.out.1)) (HYY.out.below hbq (World.block_lt_of_cell? _ _ HYY.out.1)))
                have HBQ := Lib.hid (below_add HBR.out hbq HBR.out.size)
                clear c0 hbq hb12 HGX
                refine region_classw (C := OrC w12.heap.size b3 (o3 + (j + 1) * 5) (o3 + j * 5) x y true (w12.alloc (.cells (vcells x.k x.n x.f x.s) 26))) (by kernel_rfl) (by kernel_rfl) (HC0.out.below (Below.refl _ _).drew) ?_
                repeat (first
                  | (first
                       | refine w_skip (by rfl) (by rfl) ?_
                       | refine w_skipn (by rfl) (by rfl) ?_
                     simp only [Act.put, List.setIfInBounds_toArray, List.set_cons_zero, List.set_cons_succ])
                  | (first
                       | refine w_val (v := ?_) (by rfl) (fun w9 hS => ?_) ?_
                       | refine w_valg (v := ?_) (by rfl) (by rfl) (fun w9 hS => ?_) ?_
                     rotate_left
                     · obtain ⟨⟨f0, f1, f2, f3⟩, ⟨g0, g1, g2, g3, g4⟩, hy, -⟩ := hS
                       obtain ⟨p0, p1, p2, p3, p4⟩ := hy rfl
                       go_simp
                       try with_reducible rfl
                     simp only [Act.put, List.setIfInBounds_toArray, List.set_cons_zero, List.set_cons_succ]))
                refine w_end ?_
                intro w5 T5
                have HT := Lib.hid (below_add HBQ.out T5.2.2.2 HBQ.out.size)
                clear T5
                go_wp2_with fail
                go_roundw
                case rel => exact ⟨j + 1 + 1, by omega, by go_num, HT.out⟩
                case measure => simp [intOf]; omega
            · obtain rfl : k = zs.length := by omega
              have HB4 := Lib.hid (below_add HB3.out hb HB3.out.size)
              have HLD := Lib.hid (HLC.out.below hb (Nat.le_refl _))
              clear hb
              have hwl := without_len key HRI.out
              cases hf : getA zs key with
              | none =>
                rw [hf] at hwl
                have HWL := Lib.hid (show (without5 zs key).length = zs.length by simpa using hwl)
                have HGN := Lib.hid (fun v w hv => by have := HGT.out v key w hv; rw [getV_none hf] at this; exact this)
                have HGE := Lib.hid (fun v w hv => by have := HGW.out v key w hv; rw [getV_none (get_without key)] at this; exact this)
                clear hwl hf
                go_wp2_with (first
                  | (go_at_call 20; with_reducible (refine (HWO.out _ key _ HLD.out).mono ?_); rintro e w13 ⟨u13, rfl, HR13, hb13⟩; obtain ⟨a13, c13, rfl⟩ := HR13.out.shape; have HLE := Lib.hid (HLD.out.below hb13 (Nat.le_refl _)); rw [HWL.out] at HR13 ⊢)
                  | (go_at_call 18; with_reducible (refine (HGN.out (.slice (some ⟨b3, o3, none⟩) zs.length ac1) _ HLE.out).mono ?_); rintro e w14 ⟨rfl, hb14⟩; have hb15 := (below_add hb13 hb14 hb13.size).alloc (below_add hb13 hb14 hb13.size).size (.cells (vcells 0 0 0 ⟨#[]⟩) 26); have HRE := Lib.hid ((HR13.out.below hb14 (Nat.le_refl _)).below ((Below.refl _ _).alloc (Nat.le_refl _) (.cells (vcells 0 0 0 ⟨#[]⟩) 26)) (Nat.le_refl _)); clear HLE)
                  | (go_at_call 18; with_reducible (refine (HGE.out (.slice a13 zs.length c13) _ HRE.out).mono ?_); rintro e w16 ⟨rfl, hb16⟩; have hb17 := (below_add hb15 hb16 hb15.size).alloc (below_add hb15 hb16 hb15.size).size (.cells (vcells 0 0 0 ⟨#[]⟩) 26))
                  | (go_at_call 9; refine (HK.out _).mono ?_; rintro e w20 ⟨rfl, hb20⟩))
                go_ret
                have hbz := below_add HB4.out hb17 HB4.out.size
                exact ⟨rfl, below_add hbz hb20 hbz.size⟩
              | some b =>
                rw [hf] at hwl
                have HGN := Lib.hid (fun v w hv => by have := HGT.out v key w hv; rw [getV_some hf] at this; exact this)
                have HGE := Lib.hid (fun v w hv => by have := HGW.out v key w hv; rw [getV_none (get_without key)] at this; exact this)
                obtain ⟨m, hm⟩ : ∃ m, (without5 zs key).length = m := ⟨_, rfl⟩
                have HWL := Lib.hid hm
                rw [hm] at hwl
                have hq1 : (zs.length : Int) - 1 = (m : Int) := by simp at hwl; omega
                clear hwl hf hm
                go_wp2_with (first
                  | (go_at_call 20; with_reducible (refine (HWO.out _ key _ HLD.out).mono ?_); rintro e w13 ⟨u13, rfl, HR13, hb13⟩; obtain ⟨a13, c13, rfl⟩ := HR13.out.shape; have HLE := Lib.hid (HLD.out.below hb13 (Nat.le_refl _)); rw [HWL.out] at HR13 ⊢)
                  | (go_at_call 18; with_reducible (refine (HGN.out (.slice (some ⟨b3, o3, none⟩) zs.length ac1) _ HLE.out).mono ?_); rintro e w14 ⟨rfl, hb14⟩; have hb15 := (below_add hb13 hb14 hb13.size).alloc (below_add hb13 hb14 hb13.size).size (.cells (vcells b.k b.n b.f b.s) 26); have HRE := Lib.hid ((HR13.out.below hb14 (Nat.le_refl _)).below ((Below.refl _ _).alloc (Nat.le_refl _) (.cells (vcells b.k b.n b.f b.s) 26)) (Nat.le_refl _)); clear HLE)
                  | (go_at_call 18; with_reducible (refine (HGE.out (.slice a13 m c13) _ HRE.out).mono ?_); rintro e w16 ⟨rfl, hb16⟩; have hb17 := (below_add hb15 hb16 hb15.size).alloc (below_add hb15 hb16 hb15.size).size (.cells (vcells 0 0 0 ⟨#[]⟩) 26))
                  | (go_at_call 9; refine (HK.out _).mono ?_; rintro e w20 ⟨rfl, hb20⟩))
                go_ret
                have hbz := below_add HB4.out hb17 HB4.out.size
                exact ⟨rfl, below_add hbz hb20 hbz.size⟩
end Go.Proofs.Ythbehjilabedoaa
