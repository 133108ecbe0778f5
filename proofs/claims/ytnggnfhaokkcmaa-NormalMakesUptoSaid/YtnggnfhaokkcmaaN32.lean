
import Derived.Test.YtnggnfhaokkcmaaN31
/- N32: the reference's Of -/
namespace Go.Proofs.Ytnggnfhaokkcmaa
open Go.RowKit
set_option linter.unusedVariables false
set_option maxRecDepth 100000

theorem sliced_yes {a : Option Addr} {lo hi c m : Nat} (h : c = lo) : sliced a lo hi c m = .slice a (hi - lo) (c - lo) := by
  unfold sliced
  rw [if_pos h]
theorem sliced_no {a : Option Addr} {lo hi c m : Nat} (h : ¬ c = lo) : sliced a lo hi c m = .slice (a.map fun x => x.add (lo * m)) (hi - lo) (c - lo) := by
  unfold sliced
  rw [if_neg h]
theorem row_cap {α : Type} {C : Cel α} {w : World} {a : Option Addr} {n c : Nat} {xs : List α} (h : Row C w (.slice a n c) xs) : xs.length ≤ c := by
  rcases h with ⟨ad, cap, e, rfl, -, -⟩ | ⟨b, off, cap, e, -, h1, -, -⟩
  · simp
  · injection e with _ _ e3; omega
theorem part_mem {xs : List Oz} {k f : Nat} {z : Oz} (h : z ∈ (xs.take k).drop f) : z ∈ xs := List.mem_of_mem_take (List.mem_of_mem_drop h)
/-- A gap's call. -/
theorem gapO {w wo : World} {a1 : Option Addr} {cap1 k f : Nat} {xs ys : List Oz} {v : Value} (hx : Orow w (.slice a1 xs.length cap1) xs) (hi : LIn xs) (ht : Tame xs) (h : RW w xs k f v ys wo) (hf : f ≤ k) (hk : k ≤ xs.length) :
    Calls Try.prog 32 #[sliced a1 f k cap1 5] wo fun e w' => GapP w wo ((xs.take k).drop f) e w' := by
  have hb := h.o.bel
  obtain ⟨p1, p2⟩ := h.part ht
  have hr := (take_rs xs k f).2
  have hi2 := hi.rs
  have hl := hi.len
  exact gap_any w _ ((xs.take k).drop f) wo hb ((hx.mid hf hk).below hb).row (fun z hz => hx.ok z (part_mem hz)) (fun z hz => hi.i.sm z (part_mem hz)) p1 (by rw [List.length_drop, List.length_take]; omega) (by omega) p2
def OfP (w : World) (xs : List Oz) (e : Ending) (w' : World) : Prop := ∃ v ys, e = .returned v ∧ ys.map Oz.o = formO (xs.map Oz.o) ∧ Oown (fun g => w.heap.size ≤ g) w' v ys ∧ Below w.heap.size w w'
set_option maxHeartbeats 8000000 in
theorem rof_any (u : Value) (xs : List Oz) (w : World) (hx : Orow w u xs) (hi : LIn xs) (ht : Tame xs) :
    Calls Try.prog 15 #[u] w fun e w' => OfP w xs e w' := by
  obtain ⟨a1, cap1, rfl⟩ := hx.shape
  have hcap1 := row_cap hx.row
  have hlen := hi.len
  have hn50 := ht.n
  have HP0 := Lib.hid (show RW w xs 0 0 (.slice none 0 0) [] w from ⟨GO.nil (Below.refl _ _) (Nat.le_refl _), rfl, rfl, Nat.le_refl _⟩)
  have HAT := Lib.hid (fun (h0 : 0 < xs.length) => hx.row.ats h0)
  have HX := Lib.hid hx
  have HI := Lib.hid hi
  have HT := Lib.hid ht
  obtain ⟨i0, hi, hz0, hz1, hz2⟩ := info_op
  clear hx ht
  go_enter Try.func15, Try.ntmps15
  go_wp2
  go_loopw [3, 4, 5] (fun s3 s4 s5 wr => ∃ (k f n c : Nat) (a : Option Addr) (ys : List Oz), k ≤ xs.length ∧ f ≤ k ∧ ys.length = n ∧ s3 = .slice a n c ∧ s4 = .int .i64 f ∧ s5 = .int .i64 k ∧ Hid (RW w xs k f (.slice a n c) ys wr)) (fun _ _ s5 _ => xs.length + 1 - (intOf s5).toNat)
  case atStart => exact ⟨0, 0, 0, 0, none, [], Nat.zero_le _, Nat.le_refl _, rfl, rfl, rfl, rfl, HP0⟩
  case round =>
    clear HP0
    obtain ⟨k, f, n, c, a, ys, hk, hf, hyl, rfl, rfl, rfl, HP⟩ := hrel
    obtain ⟨wo, hwo⟩ : ∃ x : World, x = wr := ⟨_, rfl⟩
    subst hwo
    have HYL := Lib.hid hyl
    have hyk := HP.out.len HT.out hk
    by_cases hlt : k < xs.length
    · obtain ⟨b1, o1, rfl, -, hcap, hcm, hbl, hat⟩ := HAT.out (by omega)
      have HLT := Lib.hid hlt
      have HZC := Lib.hid (fun W (hb : Below w.heap.size w W) => (hat k hlt).below hb)
      have HSK := Lib.hid (fun h1 => HP.out.skip hlt h1)
      obtain ⟨cc0, cc1, cc2, cc3, cc4⟩ := HZC.out wo HP.out.o.bel
      by_cases h1 : xs[k].k = 1
      · have q1 : (xs[k].k != 1) = false := by simpa using h1
        have qk : ((k : Int) == (xs.length : Int)) = false := by simp; omega
        have HADD := Lib.hid (fun v ys W (h : RM w xs k v ys W) hl v3 W3 ho => h.add hlt h1 hl (v3 := v3) (W3 := W3) ho)
        have HMRG := Lib.hid (fun v zs l W (h : RM w xs k v (zs ++ [l]) W) hl l2 h2 v3 W3 ho => h.merge hlt h1 hl (l2 := l2) h2 (v3 := v3) (W3 := W3) ho)
        have HZG := Lib.hid (fun W => OpG.of (HX.out.ok _ (List.getElem_mem hlt)) (HI.out.i.sm _ (List.getElem_mem hlt)) W)
        have HZO := Lib.hid (HX.out.ok _ (List.getElem_mem hlt))
        have HZN := Lib.hid (show 0 ≤ xs[k].n ∧ sumN ((xs.take k).map Oz.o) + xs[k].n ≤ 1125899906842624 by
          have q2 := (take_tm (f := 0) HT.out (k + 1)).2.1
          rw [take_oz hlt, sumN_app] at q2
          have q3 : sumN [xs[k].o] = xs[k].n := by simp [sumN, Oz.o]
          have q4 := (HT.out.tm _ (List.mem_map_of_mem (f := Oz.o) (List.getElem_mem hlt))).nn
          exact ⟨q4, by omega⟩)
        have HGLN := Lib.hid (fun gy hgy => HP.out.glen (gy := gy) HT.out hk hgy)
        have HGB := Lib.hid (gapO HX.out HI.out HT.out HP.out hf hk)
        rw [sliced_no (show ¬ cap1 = f by omega)] at HGB
        simp only [Option.map_some, Go.WideShapes.add_plain] at HGB
        clear hat HAT h1 HSK
        generalize xs[k] = z at *
        go_upto_region 8 with (first
          | (go_at_call 32; go_loud (refine HGB.out.mono ?_; rintro e wg ⟨vg, gy, rfl, hgy, hgo, hgb⟩; obtain ⟨ga, gc, rfl, -, -⟩ := own_shape hgo.own; have HGY := Lib.hid hgy; have HGL := Lib.hid (HGLN.out _ hgy); have hgl := HGL.out; have HG2 := Lib.hid (HP.out.o.below hgb); have HGR := Lib.hid hgo.orow.row; have HGE := Lib.hid hgo.el; have HOW := Lib.hid (show wg.ownsRow w.heap.size 34 5 (.slice a n c) n (fl ozC ys) from by have := HG2.out.own; rwa [HYL.out] at this); have HSZ := Lib.hid HG2.out.bel.size; clear hgy hgo hgb))
          | (at_builtin; go_loud (refine wpList_append_row (C := ozC) rfl (.tmp 26) (.tmp 31) 23 rfl w.heap.size 34 i0 _ 88 Try.underlying23 hi hz0 hz1 hz2 rfl (.slice a n c) n (fl ozC ys) rfl HOW.out _ gy rfl HGR.out (by unfold maxLen; omega) (by omega) HSZ.out ?_; intro v3 w3 hown3 hgrow3; have HO3 := Lib.hid (HG2.out.push hgrow3 HYL.out hown3 HGE.out); obtain ⟨a3, c3, rfl, -, -⟩ := own_shape hown3; have HM := Lib.hid (HP.out.gap HGY.out HO3.out); generalize hN : n + gy.length = N at *; clear hown3 hgrow3)))
        have HZL := Lib.hid (show (ys ++ gy).length = N by rw [List.length_append, HYL.out]; exact hN)
        have hNb : N ≤ k := by rw [← hN]; omega
        have hkb : k ≤ 1048576 := by omega
        have HMEM := Lib.hid (fun l (hl : l ∈ ys ++ gy) => HM.out.mem HT.out hl)
        clear hN hgl HP HYL HGY HGL HGR HGE HG2 HOW HO3 HGB
        generalize ys ++ gy = Z at *
        rcases nil_or_snoc Z with rfl | ⟨zs, l, rfl⟩
        · obtain rfl : N = 0 := by have := HZL.out; simpa using this.symm
          go_upto_region 11 with fail
          refine region_classw (C := fun W => Below w3.heap.size w3 W) (by kernel_rfl) (by kernel_rfl) (Below.refl _ _).drew ?_
          repeat (first
            | (first
                 | refine w_skip (by rfl) (by rfl) ?_
                 | refine w_skipn (by rfl) (by rfl) ?_
               simp only [Act.put, List.setIfInBounds_toArray, List.set_cons_zero, List.set_cons_succ])
            | (first
                 | refine w_val (v := ?_) (by rfl) (fun w9 hS => ?_) ?_
                 | refine w_valg (v := ?_) (by rfl) (by rfl) (fun w9 hS => ?_) ?_
               rotate_left
               · skip
                 go_simp
                 try with_reducible rfl
               simp only [Act.put, List.setIfInBounds_toArray, List.set_cons_zero, List.set_cons_succ])
            | (first
                 | refine w_call (by rfl) (fun w9 hS => ?_) HK9.out ?_
                 | refine w_callg (by rfl) (by rfl) (fun w9 hS => ?_) HK9.out ?_
               · skip
                 go_simp
               simp only [Act.put, List.setIfInBounds_toArray, List.set_cons_zero, List.set_cons_succ]))
          refine w_end ?_
          intro w5 T5
          have HG5 := Lib.hid (HM.out.o.below T5)
          have HZR := Lib.hid (Row.built (C := ozC) w5 34 [z] (by simp [maxLen]))
          have HA := Lib.hid (HG5.out.below (kbelow_one w5 (.cells (Oz.cs z) 34)))
          have HSZ := Lib.hid HA.out.bel.size
          have HOY := Lib.hid (show World.ownsRow (w5.alloc (.cells (Oz.cs z) 34)) w.heap.size 34 5 (.slice a3 0 c3) 0 (fl ozC ([] : List Oz)) from by have := HA.out.own; rwa [HZL.out] at this)
          obtain ⟨x0, x1, x2, x3, x4⟩ := HZC.out w5 HG5.out.bel
          clear T5
          go_wp2_with (at_builtin; go_loud (refine wpList_append_rowL (C := ozC) rfl (.tmp 80) (.tmp 85) 23 rfl w.heap.size 34 i0 _ 88 Try.underlying23 hi hz0 hz1 hz2 rfl (.slice a3 0 c3) 0 (fl ozC ([] : List Oz)) rfl HOY.out _ [z] rfl HZR.out (by simp) (by unfold maxLen; first | (simp; done) | (simp; omega) | omega) (by first | (simp; done) | (simp; omega) | omega) HSZ.out ?_); intro g6 cap6 w6 hown6 hgrow6 hlies6 hlt6)
          have HN6 := Lib.hid (HADD.out _ _ _ HM.out (fun zs l e => by simp at e) _ _ (HA.out.push hgrow6 HZL.out hown6 (fun y hy => by obtain rfl := List.mem_singleton.1 hy; exact HZG.out _)))
          clear hown6 hgrow6 hlies6 hlt6
          go_roundw
          case rel => exact ⟨k + 1, k + 1, _, _, _, ([] : List Oz) ++ [z], HLT.out, Nat.le_refl _, by rw [List.length_append, HZL.out]; rfl, rfl, by go_num, by go_num, HN6⟩
          case measure => have := HLT.out; simp [intOf]; omega
        · obtain ⟨m, hm⟩ : ∃ m, zs.length = m := ⟨_, rfl⟩
          obtain rfl : N = m + 1 := by have := HZL.out; rw [← hm, ← this]; simp
          obtain ⟨g3, c4', e, hgB, hcn, hcm4, hAt⟩ := HM.out.o.at (by simp)
          injection e with e1 e2 e3
          subst e1 e3
          have HLA := Lib.hid (fun W2 (hb : Below w3.heap.size w3 W2) => (show OAt g3 (m * 5) l W2 ∧ ∀ o, W2.frozen? ⟨g3, o, none⟩ = false from by
            have := hAt W2 hb zs.length (by simp)
            have e : (zs ++ [l])[zs.length]'(by simp) = l := by simp
            rw [e, hm] at this
            exact this))
          have HMM := Lib.hid hm
          have hln := HMEM.out l (by simp)
          have HLE := Lib.hid (fun W (hb : Below w3.heap.size w3 W) => ((HM.out.o.below hb).el l (by simp)).ok (HM.out.o.below hb).bel)
          have i1 : (m : Int) < (m : Int) + 1 := by omega
          have i2 : (0 : Int) ≤ (m : Int) := by omega
          have i3 : m < m + 1 := by omega
          clear hAt e2 hm HMEM
          by_cases hk1 : l.k = 1
          rotate_left
          · have q1 : (l.k == 1) = false := by simpa using hk1
            have hnd : ¬ (l.k = 1 ∧ l.pt = z.pt) := fun h => hk1 h.1
            clear hk1
            go_upto_region 11 with fail
            refine region_classw (C := fun W => Below w3.heap.size w3 W) (by kernel_rfl) (by kernel_rfl) (Below.refl _ _).drew ?_
            repeat (first
              | (first
                   | refine w_skip (by rfl) (by rfl) ?_
                   | refine w_skipn (by rfl) (by rfl) ?_
                 simp only [Act.put, List.setIfInBounds_toArray, List.set_cons_zero, List.set_cons_succ])
              | (first
                   | refine w_val (v := ?_) (by rfl) (fun w9 hS => ?_) ?_
                   | refine w_valg (v := ?_) (by rfl) (by rfl) (fun w9 hS => ?_) ?_
                 rotate_left
                 · (obtain ⟨⟨l0, l1, l2, l3, l4⟩, -⟩ := HLA.out w9 hS; obtain ⟨x0, x1, x2, x3, x4⟩ := HZC.out w9 (HM.out.o.below hS).bel)
                   go_simp
                   try with_reducible rfl
                 simp only [Act.put, List.setIfInBounds_toArray, List.set_cons_zero, List.set_cons_succ])
              | (first
                   | refine w_call (by rfl) (fun w9 hS => ?_) HK9.out ?_
                   | refine w_callg (by rfl) (by rfl) (fun w9 hS => ?_) HK9.out ?_
                 · (obtain ⟨⟨l0, l1, l2, l3, l4⟩, -⟩ := HLA.out w9 hS; obtain ⟨x0, x1, x2, x3, x4⟩ := HZC.out w9 (HM.out.o.below hS).bel)
                   go_simp
                 simp only [Act.put, List.setIfInBounds_toArray, List.set_cons_zero, List.set_cons_succ]))
            refine w_end ?_
            intro w5 T5
            have HG5 := Lib.hid (HM.out.o.below T5)
            have HZR := Lib.hid (Row.built (C := ozC) w5 34 [z] (by simp [maxLen]))
            have HA := Lib.hid (HG5.out.below (kbelow_one w5 (.cells (Oz.cs z) 34)))
            have HSZ := Lib.hid HA.out.bel.size
            have HOY := Lib.hid (show World.ownsRow (w5.alloc (.cells (Oz.cs z) 34)) w.heap.size 34 5 (.slice (some ⟨g3, 0, none⟩) (m + 1) c3) (m + 1) (fl ozC (zs ++ [l])) from by have := HA.out.own; rwa [HZL.out] at this)
            obtain ⟨x0, x1, x2, x3, x4⟩ := HZC.out w5 HG5.out.bel
            clear T5
            go_wp2_with (at_builtin; go_loud (refine wpList_append_rowL (C := ozC) rfl (.tmp 80) (.tmp 85) 23 rfl w.heap.size 34 i0 _ 88 Try.underlying23 hi hz0 hz1 hz2 rfl (.slice (some ⟨g3, 0, none⟩) (m + 1) c3) (m + 1) (fl ozC (zs ++ [l])) rfl HOY.out _ [z] rfl HZR.out (by simp) (by unfold maxLen; first | (simp; done) | (simp; omega) | omega) (by first | (simp; done) | (simp; omega) | omega) HSZ.out ?_); intro g6 cap6 w6 hown6 hgrow6 hlies6 hlt6)
            have HN6 := Lib.hid (HADD.out _ _ _ HM.out (fun zs2 l2 e => by have e2 := List.append_inj_right' e rfl; simp only [List.cons.injEq, and_true] at e2; rw [← e2]; exact hnd) _ _ (HA.out.push hgrow6 HZL.out hown6 (fun y hy => by obtain rfl := List.mem_singleton.1 hy; exact HZG.out _)))
            clear hown6 hgrow6 hlies6 hlt6
            go_roundw
            case rel => exact ⟨k + 1, k + 1, _, _, _, (zs ++ [l]) ++ [z], HLT.out, Nat.le_refl _, by rw [List.length_append, HZL.out]; rfl, rfl, by go_num, by go_num, HN6⟩
            case measure => have := HLT.out; simp [intOf]; omega
          have q1 : (l.k == 1) = true := by simpa using hk1
          have K9 := Lib.hid (fun b (hd : decide (l.pt = z.pt) = b) w9 (hS : Below w3.heap.size w3 w9) => (rsame_any6 l.pv z.pv l.pt z.pt w9 (HLE.out w9 hS).p (HZO.out.below (HM.out.o.below hS).bel).p).mono fun e w' (h : _ ∧ ∃ q, _) => (⟨h.1.trans (by rw [hd]), by obtain ⟨q, hq⟩ := h.2; rw [hq]; exact blw_drewN hS q⟩ : e = .returned (.bool b) ∧ Below w3.heap.size w3 w'))
          by_cases hpt : l.pt = z.pt
          rotate_left
          · have hnd : ¬ (l.k = 1 ∧ l.pt = z.pt) := fun h => hpt h.2
            have HK9 := Lib.hid (K9.out false (decide_eq_false hpt))
            clear hk1 K9 hpt
            go_upto_region 11 with fail
            refine region_classw (C := fun W => Below w3.heap.size w3 W) (by kernel_rfl) (by kernel_rfl) (Below.refl _ _).drew ?_
            repeat (first
              | (first
                   | refine w_skip (by rfl) (by rfl) ?_
                   | refine w_skipn (by rfl) (by rfl) ?_
                 simp only [Act.put, List.setIfInBounds_toArray, List.set_cons_zero, List.set_cons_succ])
              | (first
                   | refine w_val (v := ?_) (by rfl) (fun w9 hS => ?_) ?_
                   | refine w_valg (v := ?_) (by rfl) (by rfl) (fun w9 hS => ?_) ?_
                 rotate_left
                 · (obtain ⟨⟨l0, l1, l2, l3, l4⟩, -⟩ := HLA.out w9 hS; obtain ⟨x0, x1, x2, x3, x4⟩ := HZC.out w9 (HM.out.o.below hS).bel)
                   go_simp
                   try with_reducible rfl
                 simp only [Act.put, List.setIfInBounds_toArray, List.set_cons_zero, List.set_cons_succ])
              | (first
                   | refine w_call (by rfl) (fun w9 hS => ?_) HK9.out ?_
                   | refine w_callg (by rfl) (by rfl) (fun w9 hS => ?_) HK9.out ?_
                 · (obtain ⟨⟨l0, l1, l2, l3, l4⟩, -⟩ := HLA.out w9 hS; obtain ⟨x0, x1, x2, x3, x4⟩ := HZC.out w9 (HM.out.o.below hS).bel)
                   go_simp
                 simp only [Act.put, List.setIfInBounds_toArray, List.set_cons_zero, List.set_cons_succ]))
            refine w_end ?_
            intro w5 T5
            have HG5 := Lib.hid (HM.out.o.below T5)
            have HZR := Lib.hid (Row.built (C := ozC) w5 34 [z] (by simp [maxLen]))
            have HA := Lib.hid (HG5.out.below (kbelow_one w5 (.cells (Oz.cs z) 34)))
            have HSZ := Lib.hid HA.out.bel.size
            have HOY := Lib.hid (show World.ownsRow (w5.alloc (.cells (Oz.cs z) 34)) w.heap.size 34 5 (.slice (some ⟨g3, 0, none⟩) (m + 1) c3) (m + 1) (fl ozC (zs ++ [l])) from by have := HA.out.own; rwa [HZL.out] at this)
            obtain ⟨x0, x1, x2, x3, x4⟩ := HZC.out w5 HG5.out.bel
            clear T5
            go_wp2_with (at_builtin; go_loud (refine wpList_append_rowL (C := ozC) rfl (.tmp 80) (.tmp 85) 23 rfl w.heap.size 34 i0 _ 88 Try.underlying23 hi hz0 hz1 hz2 rfl (.slice (some ⟨g3, 0, none⟩) (m + 1) c3) (m + 1) (fl ozC (zs ++ [l])) rfl HOY.out _ [z] rfl HZR.out (by simp) (by unfold maxLen; first | (simp; done) | (simp; omega) | omega) (by first | (simp; done) | (simp; omega) | omega) HSZ.out ?_); intro g6 cap6 w6 hown6 hgrow6 hlies6 hlt6)
            have HN6 := Lib.hid (HADD.out _ _ _ HM.out (fun zs2 l2 e => by have e2 := List.append_inj_right' e rfl; simp only [List.cons.injEq, and_true] at e2; rw [← e2]; exact hnd) _ _ (HA.out.push hgrow6 HZL.out hown6 (fun y hy => by obtain rfl := List.mem_singleton.1 hy; exact HZG.out _)))
            clear hown6 hgrow6 hlies6 hlt6
            go_roundw
            case rel => exact ⟨k + 1, k + 1, _, _, _, (zs ++ [l]) ++ [z], HLT.out, Nat.le_refl _, by rw [List.length_append, HZL.out]; rfl, rfl, by go_num, by go_num, HN6⟩
            case measure => have := HLT.out; simp [intOf]; omega
          have HK9 := Lib.hid (K9.out true (decide_eq_true hpt))
          have HDO := Lib.hid (And.intro hk1 hpt)
          clear hk1 K9 hpt
          go_upto_region 11 with fail
          refine region_classw (C := fun W => Below w3.heap.size w3 W) (by kernel_rfl) (by kernel_rfl) (Below.refl _ _).drew ?_
          repeat (first
            | (first
                 | refine w_skip (by rfl) (by rfl) ?_
                 | refine w_skipn (by rfl) (by rfl) ?_
               simp only [Act.put, List.setIfInBounds_toArray, List.set_cons_zero, List.set_cons_succ])
            | (first
                 | refine w_val (v := ?_) (by rfl) (fun w9 hS => ?_) ?_
                 | refine w_valg (v := ?_) (by rfl) (by rfl) (fun w9 hS => ?_) ?_
               rotate_left
               · (obtain ⟨⟨l0, l1, l2, l3, l4⟩, -⟩ := HLA.out w9 hS; obtain ⟨x0, x1, x2, x3, x4⟩ := HZC.out w9 (HM.out.o.below hS).bel)
                 go_simp
                 try with_reducible rfl
               simp only [Act.put, List.setIfInBounds_toArray, List.set_cons_zero, List.set_cons_succ])
            | (first
                 | refine w_call (by rfl) (fun w9 hS => ?_) HK9.out ?_
                 | refine w_callg (by rfl) (by rfl) (fun w9 hS => ?_) HK9.out ?_
               · (obtain ⟨⟨l0, l1, l2, l3, l4⟩, -⟩ := HLA.out w9 hS; obtain ⟨x0, x1, x2, x3, x4⟩ := HZC.out w9 (HM.out.o.below hS).bel)
                 go_simp
               simp only [Act.put, List.setIfInBounds_toArray, List.set_cons_zero, List.set_cons_succ]))
          refine w_end ?_
          intro w5 T5
          have hzn := HZN.out
          have e3 : wrap64 (l.n + z.n) = l.n + z.n := by
            rw [show wrap64 (l.n + z.n) = IntKind.i64.wrap (l.n + z.n) from (Go.IntWalk.i64_left _).symm, IntKind.wrap_i64]; omega
          have HG5 := Lib.hid (HM.out.o.below T5)
          obtain ⟨⟨l0, l1, l2, l3, l4⟩, lf⟩ := HLA.out w5 T5
          have lf1 := lf (m * 5 + 1)
          obtain ⟨x0, x1, x2, x3, x4⟩ := HZC.out w5 (HM.out.o.below T5).bel
          have HN6 := Lib.hid (((HMRG.out _ _ _ _ HM.out HDO.out (numG l (l.n + z.n)) rfl _ _ (HG5.out.num (q := l.n + z.n) HZL.out HMM.out))).below (Below.refl _ _).drew)
          rw [← e3] at HN6
          have HE3 := Lib.hid e3
          clear T5 lf l0 l2 l3 l4 x0 x2 x3 x4 hzn hln
          go_wp2
          go_region_law (fail)
          all_goals
            go_wp2
            go_roundw
            case rel => exact ⟨k + 1, k + 1, _, _, _, zs ++ [numG l (wrap64 (l.n + z.n))], HLT.out, Nat.le_refl _, by rw [← HZL.out]; simp, rfl, by go_num, by go_num, HN6⟩
            case measure => have := HLT.out; simp [intOf]; omega
      · have q1 : (xs[k].k != 1) = true := by simpa using h1
        have HN := Lib.hid (HSK.out h1)
        clear hat HAT h1
        generalize xs[k] = z at *
        go_wp2
        go_roundw
        case rel => exact ⟨k + 1, f, n, c, a, ys, HLT.out, by omega, HYL.out, rfl, rfl, by go_num, HN⟩
        case measure => have := HLT.out; simp [intOf]; omega
    · obtain rfl : k = xs.length := by omega
      have HGLN := Lib.hid (fun gy hgy => HP.out.glen (gy := gy) HT.out hk hgy)
      have HGB := Lib.hid (gapO HX.out HI.out HT.out HP.out hf (Nat.le_refl _))
      by_cases hcf : cap1 = f
      · obtain rfl : f = xs.length := by omega
        obtain rfl : cap1 = xs.length := by omega
        rw [sliced_yes rfl, Nat.sub_self] at HGB
        clear hf hk hcap1 hcf hlt
        go_upto_region 8 with (first
          | (go_at_call 32; go_loud (refine HGB.out.mono ?_; rintro e wg ⟨vg, gy, rfl, hgy, hgo, hgb⟩; obtain ⟨ga, gc, rfl, -, -⟩ := own_shape hgo.own; have HGY := Lib.hid hgy; have HGL := Lib.hid (HGLN.out _ hgy); have hgl := HGL.out; have HG2 := Lib.hid (HP.out.o.below hgb); have HGR := Lib.hid hgo.orow.row; have HGE := Lib.hid hgo.el; have HOW := Lib.hid (show wg.ownsRow w.heap.size 34 5 (.slice a n c) n (fl ozC ys) from by have := HG2.out.own; rwa [HYL.out] at this); have HSZ := Lib.hid HG2.out.bel.size; clear hgy hgo hgb))
          | (at_builtin; go_loud (refine wpList_append_row (C := ozC) rfl (.tmp 26) (.tmp 31) 23 rfl w.heap.size 34 i0 _ 88 Try.underlying23 hi hz0 hz1 hz2 rfl (.slice a n c) n (fl ozC ys) rfl HOW.out _ gy rfl HGR.out (by unfold maxLen; omega) (by omega) HSZ.out ?_; intro v3 w3 hown3 hgrow3; have HO3 := Lib.hid (HG2.out.push hgrow3 HYL.out hown3 HGE.out); obtain ⟨a3, c3, rfl, -, -⟩ := own_shape hown3; have HM := Lib.hid (HP.out.gap HGY.out HO3.out); generalize hN : n + gy.length = N at *; clear hown3 hgrow3)))
        have HRV := Lib.hid (HM.out.all HT.out)
        have HSM := Lib.hid (HM.out.sm HT.out HI.out.rs)
        have HZL := Lib.hid (show (ys ++ gy).length = N by rw [List.length_append, HYL.out]; exact hN)
        have hNb : N ≤ xs.length := by rw [← hN]; omega
        have HB3 := Lib.hid HM.out.o.bel
        have hN2 := hN
        clear hN hgl HP HAT HYL HGY HGL HGR HGE HG2 HOW HO3 HGB
        generalize ys ++ gy = Z at *
        rcases nil_or_snoc Z with rfl | ⟨zs, l, rfl⟩
        · obtain rfl : N = 0 := by have := HZL.out; simpa using this.symm
          have HC := Lib.hid (rocopy_any _ _ _ HM.out.o.orow (by simp) (fun z hz => by simp at hz))
          have HF := Lib.hid (fin_no HRV.out (fun zs l e => by simp at e))
          go_wp2_with (go_at_call 11; (with_reducible refine HC.out.mono ?_); rintro e w5 ⟨v5, y5, rfl, he, ho, hb⟩; have HR := Lib.hid (And.intro (he.trans HF.out) (And.intro (ho.mono (F' := fun g => w.heap.size ≤ g) fun g hg => Nat.le_trans HB3.out.size hg) (below_add HB3.out hb HB3.out.size))); clear he ho hb)
          go_ret
          exact ⟨_, y5, rfl, HR.out⟩
        · obtain ⟨m, hm⟩ : ∃ m, zs.length = m := ⟨_, rfl⟩
          obtain rfl : N = m + 1 := by have := HZL.out; rw [← hm, ← this]; simp
          have hNb2 : m + 1 ≤ 1048576 := by omega
          obtain ⟨g3, c4, e, hgB, hcn, hcm4, hAt⟩ := HM.out.o.at (by simp)
          injection e with e1 e2 e3
          subst e1 e3
          obtain ⟨⟨l0, l1, l2, l3, l4⟩, -⟩ := (show OAt g3 (m * 5) l w3 ∧ ∀ o, w3.frozen? ⟨g3, o, none⟩ = false from by
            have := hAt w3 (Below.refl _ _) zs.length (by simp)
            have e : (zs ++ [l])[zs.length]'(by simp) = l := by simp
            rw [e, hm] at this
            exact this)
          have i1 : (m : Int) < (m : Int) + 1 := by omega
          have i2 : (0 : Int) ≤ (m : Int) := by omega
          have i3 : m < m + 1 := by omega
          have hcm5 : m ≤ c3 := by rw [HZL.out] at hcn; omega
          clear hAt e2 l1 l2 l3
          by_cases hk1 : l.k = 1 ∧ l.pt.length = 0
          · have q1 : (l.k == 1) = true := by simpa using hk1.1
            have q2 : ((l.pt.length : Int) == 0) = true := by rw [hk1.2]; rfl
            have HC := Lib.hid (rocopy_any _ _ _ (HM.out.o.cut hm) (by omega) (fun z hz => HSM.out z (by simp [hz])))
            have HF := Lib.hid (fin_yes HRV.out hk1.1 hk1.2)
            clear hk1
            go_wp2_with (go_at_call 11; (with_reducible refine HC.out.mono ?_); rintro e w5 ⟨v5, y5, rfl, he, ho, hb⟩; have HR := Lib.hid (And.intro (he.trans HF.out) (And.intro (ho.mono (F' := fun g => w.heap.size ≤ g) fun g hg => Nat.le_trans HB3.out.size hg) (below_add HB3.out hb HB3.out.size))); clear he ho hb)
            go_ret
            exact ⟨_, y5, rfl, HR.out⟩
          · have HC := Lib.hid (rocopy_any _ _ _ HM.out.o.orow (by rw [HZL.out]; omega) HSM.out)
            have HF := Lib.hid (fin_no HRV.out (fun zs2 l2 e => by have e2 := List.append_inj_right' e rfl; simp only [List.cons.injEq, and_true] at e2; rw [← e2]; exact hk1))
            by_cases hk2 : l.k = 1
            · have q1 : (l.k == 1) = true := by simpa using hk2
              have q2 : ((l.pt.length : Int) == 0) = false := by simp; intro h; exact hk1 ⟨hk2, by rw [h]; rfl⟩
              clear hk1 hk2
              go_wp2_with (go_at_call 11; (with_reducible refine HC.out.mono ?_); rintro e w5 ⟨v5, y5, rfl, he, ho, hb⟩; have HR := Lib.hid (And.intro (he.trans HF.out) (And.intro (ho.mono (F' := fun g => w.heap.size ≤ g) fun g hg => Nat.le_trans HB3.out.size hg) (below_add HB3.out hb HB3.out.size))); clear he ho hb)
              go_ret
              exact ⟨_, y5, rfl, HR.out⟩
            · have q1 : (l.k == 1) = false := by simpa using hk2
              clear hk1 hk2
              go_wp2_with (go_at_call 11; (with_reducible refine HC.out.mono ?_); rintro e w5 ⟨v5, y5, rfl, he, ho, hb⟩; have HR := Lib.hid (And.intro (he.trans HF.out) (And.intro (ho.mono (F' := fun g => w.heap.size ≤ g) fun g hg => Nat.le_trans HB3.out.size hg) (below_add HB3.out hb HB3.out.size))); clear he ho hb)
              go_ret
              exact ⟨_, y5, rfl, HR.out⟩
      · rw [sliced_no hcf] at HGB
        clear hk hlt
        go_upto_region 8 with (first
          | (go_at_call 32; go_loud (refine HGB.out.mono ?_; rintro e wg ⟨vg, gy, rfl, hgy, hgo, hgb⟩; obtain ⟨ga, gc, rfl, -, -⟩ := own_shape hgo.own; have HGY := Lib.hid hgy; have HGL := Lib.hid (HGLN.out _ hgy); have hgl := HGL.out; have HG2 := Lib.hid (HP.out.o.below hgb); have HGR := Lib.hid hgo.orow.row; have HGE := Lib.hid hgo.el; have HOW := Lib.hid (show wg.ownsRow w.heap.size 34 5 (.slice a n c) n (fl ozC ys) from by have := HG2.out.own; rwa [HYL.out] at this); have HSZ := Lib.hid HG2.out.bel.size; clear hgy hgo hgb))
          | (at_builtin; go_loud (refine wpList_append_row (C := ozC) rfl (.tmp 26) (.tmp 31) 23 rfl w.heap.size 34 i0 _ 88 Try.underlying23 hi hz0 hz1 hz2 rfl (.slice a n c) n (fl ozC ys) rfl HOW.out _ gy rfl HGR.out (by unfold maxLen; omega) (by omega) HSZ.out ?_; intro v3 w3 hown3 hgrow3; have HO3 := Lib.hid (HG2.out.push hgrow3 HYL.out hown3 HGE.out); obtain ⟨a3, c3, rfl, -, -⟩ := own_shape hown3; have HM := Lib.hid (HP.out.gap HGY.out HO3.out); generalize hN : n + gy.length = N at *; clear hown3 hgrow3)))
        have HRV := Lib.hid (HM.out.all HT.out)
        have HSM := Lib.hid (HM.out.sm HT.out HI.out.rs)
        have HZL := Lib.hid (show (ys ++ gy).length = N by rw [List.length_append, HYL.out]; exact hN)
        have hNb : N ≤ xs.length := by rw [← hN]; omega
        have HB3 := Lib.hid HM.out.o.bel
        have hN2 := hN
        clear hN hgl HP HAT HYL HGY HGL HGR HGE HG2 HOW HO3 HGB
        generalize ys ++ gy = Z at *
        rcases nil_or_snoc Z with rfl | ⟨zs, l, rfl⟩
        · obtain rfl : N = 0 := by have := HZL.out; simpa using this.symm
          have HC := Lib.hid (rocopy_any _ _ _ HM.out.o.orow (by simp) (fun z hz => by simp at hz))
          have HF := Lib.hid (fin_no HRV.out (fun zs l e => by simp at e))
          go_wp2_with (go_at_call 11; (with_reducible refine HC.out.mono ?_); rintro e w5 ⟨v5, y5, rfl, he, ho, hb⟩; have HR := Lib.hid (And.intro (he.trans HF.out) (And.intro (ho.mono (F' := fun g => w.heap.size ≤ g) fun g hg => Nat.le_trans HB3.out.size hg) (below_add HB3.out hb HB3.out.size))); clear he ho hb)
          go_ret
          exact ⟨_, y5, rfl, HR.out⟩
        · obtain ⟨m, hm⟩ : ∃ m, zs.length = m := ⟨_, rfl⟩
          obtain rfl : N = m + 1 := by have := HZL.out; rw [← hm, ← this]; simp
          have hNb2 : m + 1 ≤ 1048576 := by omega
          obtain ⟨g3, c4, e, hgB, hcn, hcm4, hAt⟩ := HM.out.o.at (by simp)
          injection e with e1 e2 e3
          subst e1 e3
          obtain ⟨⟨l0, l1, l2, l3, l4⟩, -⟩ := (show OAt g3 (m * 5) l w3 ∧ ∀ o, w3.frozen? ⟨g3, o, none⟩ = false from by
            have := hAt w3 (Below.refl _ _) zs.length (by simp)
            have e : (zs ++ [l])[zs.length]'(by simp) = l := by simp
            rw [e, hm] at this
            exact this)
          have i1 : (m : Int) < (m : Int) + 1 := by omega
          have i2 : (0 : Int) ≤ (m : Int) := by omega
          have i3 : m < m + 1 := by omega
          have hcm5 : m ≤ c3 := by rw [HZL.out] at hcn; omega
          clear hAt e2 l1 l2 l3
          by_cases hk1 : l.k = 1 ∧ l.pt.length = 0
          · have q1 : (l.k == 1) = true := by simpa using hk1.1
            have q2 : ((l.pt.length : Int) == 0) = true := by rw [hk1.2]; rfl
            have HC := Lib.hid (rocopy_any _ _ _ (HM.out.o.cut hm) (by omega) (fun z hz => HSM.out z (by simp [hz])))
            have HF := Lib.hid (fin_yes HRV.out hk1.1 hk1.2)
            clear hk1
            go_wp2_with (go_at_call 11; (with_reducible refine HC.out.mono ?_); rintro e w5 ⟨v5, y5, rfl, he, ho, hb⟩; have HR := Lib.hid (And.intro (he.trans HF.out) (And.intro (ho.mono (F' := fun g => w.heap.size ≤ g) fun g hg => Nat.le_trans HB3.out.size hg) (below_add HB3.out hb HB3.out.size))); clear he ho hb)
            go_ret
            exact ⟨_, y5, rfl, HR.out⟩
          · have HC := Lib.hid (rocopy_any _ _ _ HM.out.o.orow (by rw [HZL.out]; omega) HSM.out)
            have HF := Lib.hid (fin_no HRV.out (fun zs2 l2 e => by have e2 := List.append_inj_right' e rfl; simp only [List.cons.injEq, and_true] at e2; rw [← e2]; exact hk1))
            by_cases hk2 : l.k = 1
            · have q1 : (l.k == 1) = true := by simpa using hk2
              have q2 : ((l.pt.length : Int) == 0) = false := by simp; intro h; exact hk1 ⟨hk2, by rw [h]; rfl⟩
              clear hk1 hk2
              go_wp2_with (go_at_call 11; (with_reducible refine HC.out.mono ?_); rintro e w5 ⟨v5, y5, rfl, he, ho, hb⟩; have HR := Lib.hid (And.intro (he.trans HF.out) (And.intro (ho.mono (F' := fun g => w.heap.size ≤ g) fun g hg => Nat.le_trans HB3.out.size hg) (below_add HB3.out hb HB3.out.size))); clear he ho hb)
              go_ret
              exact ⟨_, y5, rfl, HR.out⟩
            · have q1 : (l.k == 1) = false := by simpa using hk2
              clear hk1 hk2
              go_wp2_with (go_at_call 11; (with_reducible refine HC.out.mono ?_); rintro e w5 ⟨v5, y5, rfl, he, ho, hb⟩; have HR := Lib.hid (And.intro (he.trans HF.out) (And.intro (ho.mono (F' := fun g => w.heap.size ≤ g) fun g hg => Nat.le_trans HB3.out.size hg) (below_add HB3.out hb HB3.out.size))); clear he ho hb)
              go_ret
              exact ⟨_, y5, rfl, HR.out⟩

end Go.Proofs.Ytnggnfhaokkcmaa
