
import Derived.Test.YtnggnfhaokkcmaaN29
/- N30: the reference's gap -/
namespace Go.Proofs.Ytnggnfhaokkcmaa
open Go.RowKit
set_option linter.unusedVariables false
set_option maxRecDepth 100000

structure GapW (w0 w : World) (xs : List Oz) (k : Nat) (v : Value) (ys : List Oz) (t : Int) (W : World) : Prop where
  o : GO w0 w.heap.size v ys W
  b : Below w.heap.size w W
  r : (ys.map Oz.o).reverse = joinAll (insO ((xs.take k).map Oz.o))
  t : t = goneO ((xs.take k).map Oz.o)
section
variable {w0 w W W3 : World} {xs ys : List Oz} {k : Nat} {v v3 : Value} {t t2 : Int} {z l l2 : Oz}
theorem GapW.below {W2 : World} (h : GapW w0 w xs k v ys t W) (hb : Below W.heap.size W W2) : GapW w0 w xs k v ys t W2 := ⟨h.o.below hb, below_add h.b hb h.b.size, h.r, h.t⟩
theorem GapW.del (h : GapW w0 w xs k v ys t W) (hk : k < xs.length) (h3 : xs[k].k = 3) (ht : t2 = goneO ((xs.take (k + 1)).map Oz.o)) : GapW w0 w xs (k + 1) v ys t2 W := by
  refine ⟨h.o, h.b, ?_, ht⟩
  rw [take_oz hk, insO_app, insO_no (show xs[k].o.k = 3 from h3), List.append_nil]
  exact h.r
theorem ins_take (hk : k < xs.length) (h3 : xs[k].k ≠ 3) : joinAll (insO ((xs.take (k + 1)).map Oz.o)) = joinG xs[k].o (joinAll (insO ((xs.take k).map Oz.o))) := by
  rw [take_oz hk, insO_app, insO_yes (show xs[k].o.k ≠ 3 from h3), joinAll_snoc]
theorem gone_take (hk : k < xs.length) (h3 : xs[k].k ≠ 3) : goneO ((xs.take (k + 1)).map Oz.o) = goneO ((xs.take k).map Oz.o) := by
  rw [take_oz hk, goneO_app, goneO_one, if_neg (show ¬ xs[k].o.k = 3 from h3)]; omega
theorem GapW.ins (h : GapW w0 w xs k v ys t W) (hk : k < xs.length) (h3 : xs[k].k ≠ 3) (hl : ∀ zs l, ys = zs ++ [l] → ¬ l.st = xs[k].st) (ho : GO w0 w.heap.size v3 (ys ++ [xs[k]]) W3) (hb : Below w.heap.size w W3) : GapW w0 w xs (k + 1) v3 (ys ++ [xs[k]]) t W3 := by
  refine ⟨ho, hb, ?_, h.t.trans (gone_take hk h3).symm⟩
  rw [ins_take hk h3, ← h.r, List.map_append, List.reverse_append]
  rcases nil_or_snoc ys with rfl | ⟨zs, l, rfl⟩
  · rfl
  · have := hl zs l rfl
    simp only [List.map_append, List.reverse_append, List.map_cons, List.map_nil, List.reverse_cons, List.reverse_nil, List.nil_append, List.cons_append]
    rw [joinG_no _ (show ¬ l.o.st = xs[k].o.st from this)]
theorem GapW.join {zs : List Oz} (h : GapW w0 w xs k v (zs ++ [l]) t W) (hk : k < xs.length) (h3 : xs[k].k ≠ 3) (hl : l.st = xs[k].st) (h2 : l2.o = { l.o with rs := l.rs ++ xs[k].rs }) (ho : GO w0 w.heap.size v3 (zs ++ [l2]) W3) (hb : Below w.heap.size w W3) : GapW w0 w xs (k + 1) v3 (zs ++ [l2]) t W3 := by
  refine ⟨ho, hb, ?_, h.t.trans (gone_take hk h3).symm⟩
  rw [ins_take hk h3, ← h.r]
  simp only [List.map_append, List.reverse_append, List.map_cons, List.map_nil, List.reverse_cons, List.reverse_nil, List.nil_append, List.cons_append]
  rw [joinG_yes _ (show l.o.st = xs[k].o.st from hl), h2]
  rfl
/-- Bounds of what is out so far. -/
theorem GapW.len (h : GapW w0 w xs k v ys t W) (hk : k ≤ xs.length) : ys.length ≤ k := by
  have e := congrArg List.length h.r
  have h1 := (sumR_joinAll (insO ((xs.take k).map Oz.o))).2
  have h2 := insO_len ((xs.take k).map Oz.o)
  simp only [List.length_reverse, List.length_map, List.length_take] at e h2
  omega
theorem GapW.rs (h : GapW w0 w xs k v ys t W) (hl : l ∈ ys) (hg : Gp (xs.map Oz.o)) : l.rs.length ≤ sumR (xs.map Oz.o) ∧ 0 < l.rs.length := by
  have hm : l.o ∈ joinAll (insO ((xs.take k).map Oz.o)) := by rw [← h.r]; simpa using List.mem_map_of_mem (f := Oz.o) hl
  have h1 := sumR_mem hm
  have h2 := (sumR_joinAll (insO ((xs.take k).map Oz.o))).1
  have h3 := sumR_insO ((xs.take k).map Oz.o)
  have h4 : sumR (xs.map Oz.o) = sumR ((xs.take k).map Oz.o) + sumR ((xs.drop k).map Oz.o) := by rw [← sumR_app, ← List.map_append, List.take_append_drop]
  have h5 : l.o.rs ≠ [] := joinAll_ind (P := fun o => o.rs ≠ []) (fun a b ha _ => by simp [ha]) _ (fun p hp => by
    obtain ⟨q1, q2⟩ := List.mem_filter.1 hp
    obtain ⟨y, hy, rfl⟩ := List.mem_map.1 q1
    obtain ⟨ht, hk1⟩ := hg _ (List.mem_map_of_mem (List.mem_of_mem_take hy))
    have h3 : y.o.k ≠ 3 := by simpa using q2
    have h4 : y.o.k = 2 := by rcases ht.kind with e | e | e <;> omega
    exact (ht.ins h4).2.2) _ hm
  have h6 : l.o.rs.length = l.rs.length := rfl
  have h7 : 0 < l.o.rs.length := List.length_pos_iff.2 h5
  omega
end

def GapP (w0 w : World) (xs : List Oz) (e : Ending) (w' : World) : Prop := ∃ v ys, e = .returned v ∧ (ys.map Oz.o).reverse = gapR (xs.map Oz.o) ∧ GO w0 w.heap.size v ys w' ∧ Below w.heap.size w w'
set_option maxHeartbeats 8000000 in
theorem gap_any (w0 : World) (u : Value) (xs : List Oz) (w : World) (hb : Below w0.heap.size w0 w) (hx : Row ozC w u xs) (hok : ∀ z ∈ xs, OpOk w0 z) (hsm : ∀ z ∈ xs, Sm z) (hg : Gp (xs.map Oz.o)) (hlen : xs.length ≤ 1048576) (hr : sumR (xs.map Oz.o) ≤ 1048576) (hn : goneO (xs.map Oz.o) ≤ 1125899906842624) :
    Calls Try.prog 32 #[u] w fun e w' => GapP w0 w xs e w' := by
  obtain ⟨a1, cap1, rfl⟩ := hx.shape
  have hbs := hb.size
  have HP0 := Lib.hid (show GapW w0 w xs 0 (.slice none 0 0) [] 0 w from ⟨GO.nil hb hb.size, Below.refl _ _, rfl, rfl⟩)
  have HAT := Lib.hid (fun (h0 : 0 < xs.length) => hx.ats h0)
  have HOK := Lib.hid hok
  have HSM := Lib.hid hsm
  have HG := Lib.hid hg
  have HN := Lib.hid hn
  obtain ⟨i0, hi, hz0, hz1, hz2⟩ := info_op
  obtain ⟨j1, hj1, hj10, hj11, hj12⟩ := info_i32
  clear hb hx hok hsm hg hn
  go_enter Try.func32, Try.ntmps32
  go_wp2
  go_loopw [3, 4, 5] (fun s3 s4 s5 wr => ∃ (k n c : Nat) (a : Option Addr) (t : Int) (ys : List Oz), k ≤ xs.length ∧ ys.length = n ∧ s3 = .slice a n c ∧ s4 = .int .i64 t ∧ s5 = .int .i64 k ∧ Hid (GapW w0 w xs k (.slice a n c) ys t wr)) (fun _ _ s5 _ => xs.length - (intOf s5).toNat)
  case atStart => exact ⟨0, 0, 0, none, 0, [], Nat.zero_le _, rfl, rfl, rfl, rfl, HP0⟩
  case round =>
    clear HP0
    obtain ⟨k, n, c, a, t, ys, hk, hyl, rfl, rfl, rfl, HP⟩ := hrel
    obtain ⟨wo, hwo⟩ : ∃ x : World, x = wr := ⟨_, rfl⟩
    subst hwo
    by_cases hlt : k < xs.length
    · obtain ⟨b1, o1, rfl, -, -, -, hbl, hat⟩ := HAT.out (by omega)
      have HLT := Lib.hid hlt
      have hyk := HP.out.len hk
      have HYL := Lib.hid hyl
      obtain ⟨c0, c1, c2, c3, c4⟩ := (hat k hlt).below HP.out.b
      have HB0 := Lib.hid (HP.out.b)
      have HZO := Lib.hid (HOK.out _ (List.getElem_mem hlt))
      have HZS := Lib.hid (HSM.out _ (List.getElem_mem hlt))
      have hzk := HG.out _ (List.mem_map_of_mem (f := Oz.o) (List.getElem_mem hlt))
      have hzr := sumR_mem (List.mem_map_of_mem (f := Oz.o) (List.getElem_mem hlt))
      have HSTEP := Lib.hid (gone_step hlt HP.out.t (fun o ho => (HG.out o ho).1) HN.out)
      have HDEL := Lib.hid (fun h3 t2 ht W (hb : Below wo.heap.size wo W) => (HP.out.below hb).del hlt h3 (t2 := t2) ht)
      have HINS := Lib.hid (fun h3 hl v3 W3 ho hb => HP.out.ins hlt h3 hl (v3 := v3) (W3 := W3) ho hb)
      have HJOIN := Lib.hid (fun h3 zs l (e : ys = zs ++ [l]) hl l2 h2 v3 W3 ho hb => GapW.join (l2 := l2) (v3 := v3) (W3 := W3) (e ▸ HP.out) hlt h3 hl h2 ho hb)
      have HRS := Lib.hid (fun l (hl : l ∈ ys) => HP.out.rs hl HG.out)
      have HGO := Lib.hid (fun W (hb : Below wo.heap.size wo W) => HP.out.o.below hb)
      have HBX := Lib.hid (fun W (hb : Below wo.heap.size wo W) => below_add HB0.out hb HB0.out.size)
      clear hat HAT HP
      generalize xs[k] = z at *
      have HX := Lib.hid (OAt.new wo z 34)
      have HB1 := Lib.hid (kbelow_one wo (.cells z.cs 34))
      by_cases h3 : z.k = 3
      · have q1 : (z.k == 3) = true := by simpa using h3
        have HD := Lib.hid (HDEL.out h3 _ (HSTEP.out.1 h3) _ HB1.out)
        clear HDEL HINS HJOIN HRS HSTEP hzk h3
        go_wp2
        go_roundw
        case rel => exact ⟨k + 1, _, _, _, _, _, HLT.out, HYL.out, rfl, rfl, by go_num, HD⟩
        case measure => have := HLT.out; simp [intOf]; omega
      · have q1 : (z.k == 3) = false := by simpa using h3
        have hk2 : z.k = 2 := by rcases hzk.1.kind with e | e | e; exact absurd e hzk.2; exact e; exact absurd e h3
        have hzr1 : z.rs.length ≤ 1048576 := by have e : z.o.rs.length = z.rs.length := rfl; omega
        have hzr0 : 0 < z.rs.length := List.length_pos_iff.2 (hzk.1.ins hk2).2.2
        have HI := Lib.hid (HINS.out h3)
        have HJ := Lib.hid (HJOIN.out h3)
        clear HDEL HINS HJOIN HSTEP hzk h3 hk2
        rcases nil_or_snoc ys with rfl | ⟨zs, l, rfl⟩
        · simp only [List.length_nil] at hyl
          subst hyl
          clear HJ HRS
          go_upto_region 10 with fail
          generalize hW1 : wo.alloc (.cells _ 34) = W1 at *
          refine region_classw (C := fun W => Below W1.heap.size W1 W) (by kernel_rfl) (by kernel_rfl) (Below.refl _ _).drew ?_
          repeat (first
            | (first
                 | refine w_skip (by rfl) (by rfl) ?_
                 | refine w_skipn (by rfl) (by rfl) ?_
               simp only [Act.put, List.setIfInBounds_toArray, List.set_cons_zero, List.set_cons_succ])
            | (first
                 | refine w_val (v := ?_) (by rfl) (fun w9 hS => ?_) ?_
                 | refine w_valg (v := ?_) (by rfl) (by rfl) (fun w9 hS => ?_) ?_
               rotate_left
               · skip
                 go_simp
                 try with_reducible rfl
               simp only [Act.put, List.setIfInBounds_toArray, List.set_cons_zero, List.set_cons_succ])
            | (first
                 | refine w_call (by rfl) (fun w9 hS => ?_) HK9.out ?_
                 | refine w_callg (by rfl) (by rfl) (fun w9 hS => ?_) HK9.out ?_
               · skip
                 go_simp
               simp only [Act.put, List.setIfInBounds_toArray, List.set_cons_zero, List.set_cons_succ]))
          refine w_end ?_
          intro w5 T5
          have HX5 := Lib.hid (HX.out.below T5)
          have HG5 := Lib.hid (HGO.out w5 (below_add HB1.out T5 HB1.out.size))
          have HB5 := Lib.hid (HBX.out w5 (below_add HB1.out T5 HB1.out.size))
          have HZR := Lib.hid (Row.built (C := ozC) w5 34 [z] (by simp [maxLen]))
          have HA := Lib.hid (HG5.out.below (kbelow_one w5 (.cells (Oz.cs z) 34)))
          have HSZ := Lib.hid (Nat.le_trans HB5.out.size (kbelow_one w5 (.cells (Oz.cs z) 34)).size)
          have HOY := Lib.hid (show World.ownsRow (w5.alloc (.cells (Oz.cs z) 34)) w.heap.size 34 5 (.slice a 0 c) 0 (fl ozC ([] : List Oz)) from by have := HA.out.own; rwa [HYL.out] at this)
          obtain ⟨x0, x1, x2, x3, x4⟩ := HX5.out
          clear T5
          go_wp2_with (at_builtin; go_loud (refine wpList_append_rowL (C := ozC) rfl (.tmp 54) (.tmp 56) 23 rfl w.heap.size 34 i0 _ 88 Try.underlying23 hi hz0 hz1 hz2 rfl (.slice a 0 c) 0 (fl ozC ([] : List Oz)) rfl HOY.out _ [z] rfl HZR.out (by simp) (by unfold maxLen; first | (simp; done) | (simp; omega) | omega) (by first | (simp; done) | (simp; omega) | omega) HSZ.out ?_); intro g3 cap3 w3 hown3 hgrow3 hlies3 hlt3)
          have HN2 := Lib.hid (HI.out (fun zs l e => by simp at e) _ _ (HA.out.push hgrow3 HYL.out hown3 (fun y hy => by obtain rfl := List.mem_singleton.1 hy; exact OpG.of HZO.out HZS.out _)) ((below_add HB5.out (kbelow_one w5 (.cells (Oz.cs z) 34)) HB5.out.size).trans ((Off.of_grown hgrow3 (fun q9 hg => hg)).below (S := fun q9 => (Value.slice a 0 c).ownBlock = some q9) (fun q9 hg => own_base HA.out.own hg) HSZ.out)))
          clear hown3 hgrow3 hlies3 hlt3
          go_roundw
          case rel => exact ⟨k + 1, _, _, _, _, ([] : List Oz) ++ [z], HLT.out, by rw [List.length_append, HYL.out]; rfl, rfl, rfl, by go_num, HN2⟩
          case measure => have := HLT.out; simp [intOf]; omega
        · have hrl := HRS.out l (by simp)
          obtain ⟨g, c', e, hgB, hcn, hcm, hAt⟩ := (HGO.out wo (Below.refl _ _)).at (by simp)
          injection e with e1 e2 e3
          subst e1 e3
          obtain ⟨m, hm⟩ : ∃ m, zs.length = m := ⟨_, rfl⟩
          obtain rfl : n = m + 1 := by rw [← hyl, ← hm]; simp
          have HM := Lib.hid hm
          have i1 : (m : Int) < (m : Int) + 1 := by omega
          have i2 : (0 : Int) ≤ (m : Int) := by omega
          have i3 : m < m + 1 := by omega
          have HLA := Lib.hid (fun W2 (hb : Below wo.heap.size wo W2) => (show OAt g (m * 5) l W2 ∧ ∀ o, W2.frozen? ⟨g, o, none⟩ = false from by
            have := hAt W2 hb zs.length (by simp)
            have e : (zs ++ [l])[zs.length]'(by simp) = l := by simp
            rw [e, hm] at this
            exact this))
          have HLE := Lib.hid (fun W (hb : Below wo.heap.size wo W) => (HGO.out W hb).el l (by simp))
          clear hAt HRS e2 hm
          go_upto_region 10 with fail
          generalize hW1 : wo.alloc (.cells _ 34) = W1 at *
          have K9 := Lib.hid (fun b (hd : decide (l.st = z.st) = b) w9 (hS : Below W1.heap.size W1 w9) => (rsame_any5 l.sv z.sv l.st z.st w9 ((HLE.out w9 (below_add HB1.out hS HB1.out.size)).ok (HGO.out w9 (below_add HB1.out hS HB1.out.size)).bel).s (HZO.out.s.below (HGO.out w9 (below_add HB1.out hS HB1.out.size)).bel (Nat.le_refl _))).mono fun e w' (h : _ ∧ ∃ q, _) => (⟨h.1.trans (by rw [hd]), by obtain ⟨q, hq⟩ := h.2; rw [hq]; exact blw_drewN hS q⟩ : e = .returned (.bool b) ∧ Below W1.heap.size W1 w'))
          by_cases hst : l.st = z.st
          · have HK9 := Lib.hid (K9.out true (decide_eq_true hst))
            clear K9
            refine region_classw (C := fun W => Below W1.heap.size W1 W) (by kernel_rfl) (by kernel_rfl) (Below.refl _ _).drew ?_
            repeat (first
              | (first
                   | refine w_skip (by rfl) (by rfl) ?_
                   | refine w_skipn (by rfl) (by rfl) ?_
                 simp only [Act.put, List.setIfInBounds_toArray, List.set_cons_zero, List.set_cons_succ])
              | (first
                   | refine w_val (v := ?_) (by rfl) (fun w9 hS => ?_) ?_
                   | refine w_valg (v := ?_) (by rfl) (by rfl) (fun w9 hS => ?_) ?_
                 rotate_left
                 · (obtain ⟨⟨l0, l1, l2, l3, l4⟩, -⟩ := HLA.out w9 (below_add HB1.out hS HB1.out.size); obtain ⟨x0, x1, x2, x3, x4⟩ := HX.out.below hS)
                   go_simp
                   try with_reducible rfl
                 simp only [Act.put, List.setIfInBounds_toArray, List.set_cons_zero, List.set_cons_succ])
              | (first
                   | refine w_call (by rfl) (fun w9 hS => ?_) HK9.out ?_
                   | refine w_callg (by rfl) (by rfl) (fun w9 hS => ?_) HK9.out ?_
                 · (obtain ⟨⟨l0, l1, l2, l3, l4⟩, -⟩ := HLA.out w9 (below_add HB1.out hS HB1.out.size); obtain ⟨x0, x1, x2, x3, x4⟩ := HX.out.below hS)
                   go_simp
                 simp only [Act.put, List.setIfInBounds_toArray, List.set_cons_zero, List.set_cons_succ]))
            refine w_end ?_
            intro w5 T5
            have HX5 := Lib.hid (HX.out.below T5)
            have HB15 := Lib.hid (below_add HB1.out T5 HB1.out.size)
            have HB5 := Lib.hid (HBX.out w5 HB15.out)
            have HG5 := Lib.hid (HGO.out w5 HB15.out)
            have HBE := Lib.hid (below_ad w5 (.cells #[] 21))
            have HE0 := Lib.hid (owns_below (owns_none w5 21 1) (Below.refl _ _).drew)
            have HLR := Lib.hid ((((HLE.out w5 HB15.out).ok HG5.out.bel).below HBE.out).r.rowC)
            have HSZ := Lib.hid HBE.out.size
            have HZR := Lib.hid (fun W (hb : Below w5.heap.size w5 W) => ((HZO.out.r.below HG5.out.bel).below hb).rowC)
            have HLF := Lib.hid (HLE.out w5 HB15.out)
            obtain ⟨⟨l0, l1, l2, l3, l4⟩, lf⟩ := HLA.out w5 HB15.out
            have lf2 := lf (m * 5 + 2)
            obtain ⟨x0, x1, x2, x3, x4⟩ := HX5.out
            obtain ⟨⟨p0, p1, p2, p3, p4⟩, pf⟩ := HLA.out _ (below_add HB15.out HBE.out HB15.out.size)
            have pf2 := pf (m * 5 + 2)
            obtain ⟨y0, y1, y2, y3, y4⟩ := HX5.out.below HBE.out
            clear T5 lf pf HK9 l0 l1 l3 l4 x0 x1 x3 x4 p0 p1 p3 p4 y0 y1 y3 y4
            go_wp2
            go_region_law
              (first
                | ((refine step_append_rowR (C := intC) (by rfl) (.tmp 42) (.tmp 47) 30 (by rfl) w5.heap.size 21 j1 (.int .i32 0) 4 Try.underlying30 hj1 hj10 hj11 hj12 (by rfl) (.slice (some ⟨w5.heap.size, 0, none⟩) 0 0) 0 [] (by rfl) HE0.out _ l.rs (by rfl) HLR.out hrl.2 (by unfold maxLen; omega) (by omega) HSZ.out ?_; intro g3 cap3 w3 hown3 hgrow3; have H3 := Lib.hid (bel_grown HBE.out HE0.out hgrow3); have HR3 := Lib.hid (HZR.out w3 H3.out); have HSZ3 := Lib.hid H3.out.size; have HO3 := Lib.hid (show w3.ownsRow w5.heap.size 21 1 (.slice (some ⟨g3, 0, none⟩) l.rs.length cap3) l.rs.length (l.rs.map (Value.int .i32)) from by have q9 := hown3; simp [fl_intC] at q9; exact q9); obtain ⟨⟨r0, r1, r2, r3, r4⟩, rf⟩ := HLA.out w3 (below_add HB15.out H3.out HB15.out.size); have rf2 := rf (m * 5 + 2); obtain ⟨s0, s1, s2, s3, s4⟩ := HX5.out.below H3.out; clear r0 r1 r3 r4 s0 s1 s3 s4 rf hown3 hgrow3))
                | ((refine step_append_rowR (C := intC) (by rfl) (.tmp 48) (.tmp 50) 30 (by rfl) w5.heap.size 21 j1 (.int .i32 0) 4 Try.underlying30 hj1 hj10 hj11 hj12 (by rfl) (.slice (some ⟨g3, 0, none⟩) l.rs.length cap3) l.rs.length (l.rs.map (Value.int .i32)) (by rfl) HO3.out _ z.rs (by rfl) HR3.out hzr0 (by unfold maxLen; omega) (by omega) HSZ3.out ?_; intro g4 cap4 w4 hown4 hgrow4; have H4 := Lib.hid (bel_grown H3.out HO3.out hgrow4); have HO4 := Lib.hid (show w4.ownsRow w5.heap.size 21 1 (.slice (some ⟨g4, 0, none⟩) (l.rs.length + z.rs.length) cap4) (l.rs.length + z.rs.length) ((l.rs ++ z.rs).map (Value.int .i32)) from by have q9 := hown4; simp [fl_intC] at q9; rw [List.map_append]; exact q9); obtain ⟨⟨r0, r1, r2, r3, r4⟩, rf⟩ := HLA.out w4 (below_add HB15.out H4.out HB15.out.size); have rf2 := rf (m * 5 + 2); clear r0 r1 r3 r4 rf hown4 hgrow4)))
            all_goals
              have HN2 := Lib.hid (HJ.out zs l rfl hst (runesG l g4 cap4 (l.rs ++ z.rs)) rfl _ _ ((HG5.out.below H4.out).runes HYL.out HM.out HG5.out.bel.size List.length_append HO4.out) (bel_set (below_add HB5.out H4.out HB5.out.size) hgB (Nat.le_refl _) _))
              go_wp2
              go_roundw
              case rel => exact ⟨k + 1, _, _, _, _, zs ++ [runesG l g4 cap4 (l.rs ++ z.rs)], HLT.out, by rw [← HYL.out]; simp, rfl, rfl, by go_num, HN2⟩
              case measure => have := HLT.out; simp [intOf]; omega
          · have HK9 := Lib.hid (K9.out false (decide_eq_false hst))
            clear K9
            refine region_classw (C := fun W => Below W1.heap.size W1 W) (by kernel_rfl) (by kernel_rfl) (Below.refl _ _).drew ?_
            repeat (first
              | (first
                   | refine w_skip (by rfl) (by rfl) ?_
                   | refine w_skipn (by rfl) (by rfl) ?_
                 simp only [Act.put, List.setIfInBounds_toArray, List.set_cons_zero, List.set_cons_succ])
              | (first
                   | refine w_val (v := ?_) (by rfl) (fun w9 hS => ?_) ?_
                   | refine w_valg (v := ?_) (by rfl) (by rfl) (fun w9 hS => ?_) ?_
                 rotate_left
                 · (obtain ⟨⟨l0, l1, l2, l3, l4⟩, -⟩ := HLA.out w9 (below_add HB1.out hS HB1.out.size); obtain ⟨x0, x1, x2, x3, x4⟩ := HX.out.below hS)
                   go_simp
                   try with_reducible rfl
                 simp only [Act.put, List.setIfInBounds_toArray, List.set_cons_zero, List.set_cons_succ])
              | (first
                   | refine w_call (by rfl) (fun w9 hS => ?_) HK9.out ?_
                   | refine w_callg (by rfl) (by rfl) (fun w9 hS => ?_) HK9.out ?_
                 · (obtain ⟨⟨l0, l1, l2, l3, l4⟩, -⟩ := HLA.out w9 (below_add HB1.out hS HB1.out.size); obtain ⟨x0, x1, x2, x3, x4⟩ := HX.out.below hS)
                   go_simp
                 simp only [Act.put, List.setIfInBounds_toArray, List.set_cons_zero, List.set_cons_succ]))
            refine w_end ?_
            intro w5 T5
            have HX5 := Lib.hid (HX.out.below T5)
            have HG5 := Lib.hid (HGO.out w5 (below_add HB1.out T5 HB1.out.size))
            have HB5 := Lib.hid (HBX.out w5 (below_add HB1.out T5 HB1.out.size))
            have HZR := Lib.hid (Row.built (C := ozC) w5 34 [z] (by simp [maxLen]))
            have HA := Lib.hid (HG5.out.below (kbelow_one w5 (.cells (Oz.cs z) 34)))
            have HSZ := Lib.hid (Nat.le_trans HB5.out.size (kbelow_one w5 (.cells (Oz.cs z) 34)).size)
            have HOY := Lib.hid (show World.ownsRow (w5.alloc (.cells (Oz.cs z) 34)) w.heap.size 34 5 (.slice (some ⟨g, 0, none⟩) (m + 1) c) (m + 1) (fl ozC (zs ++ [l])) from by have := HA.out.own; rwa [HYL.out] at this)
            obtain ⟨x0, x1, x2, x3, x4⟩ := HX5.out
            clear T5
            go_wp2_with (at_builtin; go_loud (refine wpList_append_rowL (C := ozC) rfl (.tmp 54) (.tmp 56) 23 rfl w.heap.size 34 i0 _ 88 Try.underlying23 hi hz0 hz1 hz2 rfl (.slice (some ⟨g, 0, none⟩) (m + 1) c) (m + 1) (fl ozC (zs ++ [l])) rfl HOY.out _ [z] rfl HZR.out (by simp) (by unfold maxLen; first | (simp; done) | (simp; omega) | omega) (by first | (simp; done) | (simp; omega) | omega) HSZ.out ?_); intro g3 cap3 w3 hown3 hgrow3 hlies3 hlt3)
            have HN2 := Lib.hid (HI.out (fun zs2 l2 e => by have e2 := List.append_inj_right' e rfl; simp only [List.cons.injEq, and_true] at e2; rw [← e2]; exact hst) _ _ (HA.out.push hgrow3 HYL.out hown3 (fun y hy => by obtain rfl := List.mem_singleton.1 hy; exact OpG.of HZO.out HZS.out _)) ((below_add HB5.out (kbelow_one w5 (.cells (Oz.cs z) 34)) HB5.out.size).trans ((Off.of_grown hgrow3 (fun q9 hg => hg)).below (S := fun q9 => (Value.slice (some ⟨g, 0, none⟩) (m + 1) c).ownBlock = some q9) (fun q9 hg => own_base HA.out.own hg) HSZ.out)))
            clear hown3 hgrow3 hlies3 hlt3
            go_roundw
            case rel => exact ⟨k + 1, _, _, _, _, (zs ++ [l]) ++ [z], HLT.out, by rw [List.length_append, HYL.out]; rfl, rfl, rfl, by go_num, HN2⟩
            case measure => have := HLT.out; simp [intOf]; omega

    · obtain rfl : k = xs.length := by omega
      have hyk := HP.out.len hk
      have HYL := Lib.hid hyl
      have HE := Lib.hid (show (ys.map Oz.o).reverse = joinAll (insO (xs.map Oz.o)) ∧ t = goneO (xs.map Oz.o) by have h1 := HP.out.r; have h2 := HP.out.t; rw [List.take_length] at h1 h2; exact ⟨h1, h2⟩)
      have HB5 := Lib.hid HP.out.b
      have HG5 := Lib.hid HP.out.o
      clear HP hk hlt
      by_cases h0 : 0 < t
      · have d0 : decide ((0 : Int) < t) = true := decide_eq_true h0
        have HZR := Lib.hid (Row.built (C := ozC) wo 34 [zD t] (by simp [maxLen]))
        have HA := Lib.hid (HG5.out.below (kbelow_one wo (.cells (Oz.cs (zD t)) 34)))
        have HSZ := Lib.hid (Nat.le_trans HB5.out.size (kbelow_one wo (.cells (Oz.cs (zD t)) 34)).size)
        have HOY := Lib.hid (show World.ownsRow (wo.alloc (.cells (Oz.cs (zD t)) 34)) w.heap.size 34 5 (.slice a n c) n (fl ozC ys) from by have := HA.out.own; rwa [HYL.out] at this)
        have HRR := Lib.hid (show ((ys ++ [zD t]).map Oz.o).reverse = gapR (xs.map Oz.o) by
          obtain ⟨e1, e2⟩ := HE.out
          rw [gapR, if_pos (e2 ▸ h0), List.map_append, List.reverse_append, e1, ← e2]
          rfl)
        go_wp2_with (at_builtin; go_loud (refine wpList_append_rowL (C := ozC) rfl (.tmp 60) (.tmp 63) 23 rfl w.heap.size 34 i0 _ 88 Try.underlying23 hi hz0 hz1 hz2 rfl (.slice a n c) n (fl ozC ys) rfl HOY.out _ [zD t] rfl HZR.out (by simp) (by unfold maxLen; first | (simp; done) | (simp; omega) | omega) (by first | (simp; done) | (simp; omega) | omega) HSZ.out ?_); intro g3 cap3 w3 hown3 hgrow3 hlies3 hlt3)
        go_ret
        exact ⟨_, ys ++ [zD t], rfl, HRR.out, HA.out.push hgrow3 HYL.out hown3 (fun y hy => by obtain rfl := List.mem_singleton.1 hy; exact OpG.of (okD _ _) ⟨by simp, by simp, by simp⟩ _), (below_add HB5.out (kbelow_one wo (.cells (Oz.cs (zD t)) 34)) HB5.out.size).trans ((Off.of_grown hgrow3 (fun q9 hg => hg)).below (S := fun q9 => (Value.slice a n c).ownBlock = some q9) (fun q9 hg => own_base HA.out.own hg) HSZ.out)⟩
      · have d0 : decide ((0 : Int) < t) = false := decide_eq_false h0
        have HRR := Lib.hid (show (ys.map Oz.o).reverse = gapR (xs.map Oz.o) by
          obtain ⟨e1, e2⟩ := HE.out
          rw [gapR, if_neg (e2 ▸ h0), e1])
        go_wp2
        go_ret
        exact ⟨_, ys, rfl, HRR.out, HG5.out, HB5.out⟩
end Go.Proofs.Ytnggnfhaokkcmaa
