
import Derived.Test.YtjgfgpkaeddjhaaUO
import Derived.Test.YtjgfgpkaeddjhaaU4
/- UP: the runes between two places of a rope -/
namespace Go.Proofs.Ytjgfgpkaeddjhaa
open Go.RowKit Go.Shelf
set_option linter.unusedVariables false
set_option maxRecDepth 100000
attribute [local go_sem] Oper.semAt_some
theorem over_any (tb : Nat) (i j : Nat) (w : World) : Calls Try.prog 29 #[.pointer (some ⟨tb, 0, none⟩), .int .i64 (i : Nat), .int .i64 (j : Nat)] w fun e w' => ∃ b1 b2 b3 : Nat, e = .returned (.func (.func 48) #[] #[.pointer (some ⟨b1, 0, none⟩), .pointer (some ⟨b2, 0, none⟩), .pointer (some ⟨b3, 0, none⟩)]) ∧
      Cb b1 27 #[.pointer (some ⟨tb, 0, none⟩)] w' ∧ Cb b2 3 #[.int .i64 (i : Nat)] w' ∧ Cb b3 3 #[.int .i64 (j : Nat)] w' ∧ w.heap.size ≤ b1 ∧ w.heap.size ≤ b2 ∧ w.heap.size ≤ b3 ∧ Below w.heap.size w w' := by
  have H1 := Lib.hid (show Cb w.heap.size 27 #[.pointer (some ⟨tb, 0, none⟩)] (((w.alloc (.cells #[.pointer (some ⟨tb, 0, none⟩)] 27)).alloc (.cells #[.int .i64 (i : Nat)] 3)).alloc (.cells #[.int .i64 (j : Nat)] 3)) from ((cb_new w _ _).alloc _).alloc _)
  have H2 := Lib.hid (show Cb (w.heap.size + 1) 3 #[.int .i64 (i : Nat)] (((w.alloc (.cells #[.pointer (some ⟨tb, 0, none⟩)] 27)).alloc (.cells #[.int .i64 (i : Nat)] 3)).alloc (.cells #[.int .i64 (j : Nat)] 3)) from by
    have := (cb_new (w.alloc (.cells #[.pointer (some ⟨tb, 0, none⟩)] 27)) 3 #[.int .i64 (i : Nat)]).alloc (.cells #[.int .i64 (j : Nat)] 3); simpa using this)
  have H3 := Lib.hid (show Cb (w.heap.size + 1 + 1) 3 #[.int .i64 (j : Nat)] (((w.alloc (.cells #[.pointer (some ⟨tb, 0, none⟩)] 27)).alloc (.cells #[.int .i64 (i : Nat)] 3)).alloc (.cells #[.int .i64 (j : Nat)] 3)) from by
    have := cb_new ((w.alloc (.cells #[.pointer (some ⟨tb, 0, none⟩)] 27)).alloc (.cells #[.int .i64 (i : Nat)] 3)) 3 #[.int .i64 (j : Nat)]; simpa using this)
  have H4 := Lib.hid ((((Below.refl w.heap.size w).alloc (Nat.le_refl _) (.cells #[.pointer (some ⟨tb, 0, none⟩)] 27)).alloc (by simp) (.cells #[.int .i64 (i : Nat)] 3)).alloc (by simp; omega) (.cells #[.int .i64 (j : Nat)] 3))
  go_enter Try.func29, Try.ntmps29
  go_wp2
  go_ret
  exact ⟨_, _, _, rfl, H1.out, H2.out, H3.out, Nat.le_refl _, Nat.le_succ _, by omega, H4.out⟩
theorem runes_form {w : World} {base : Nat} {v : Value} {l : List Int} (h : w.ownsRow base 21 1 v l.length (l.map (Value.int .i32))) (h0 : 0 < l.length) :
    ∃ rg rc, v = .slice (some ⟨rg, 0, none⟩) l.length rc ∧ base ≤ rg ∧ ∀ j u, (l.map (Value.int .i32))[j]? = some u → w.cell? ((⟨rg, 0, none⟩ : Addr).add j) = some u := by
  obtain ⟨g, cap, rfl, hb, hg⟩ := h.form h0
  exact ⟨g, cap, rfl, hb, fun j u hu => h.cells (g := g) rfl j u hu⟩
/-- What Slice keeps between two rounds. -/
structure SlS (w0 : World) (B0 B bl n0 : Nat) (pre : List NCk) (v : Value) (W : World) : Prop where
  c : Cb bl 22 #[v] W
  own : W.ownsRow B 21 1 v (flatN pre).length ((flatN pre).map (Value.int .i32))
  blk : ∀ g, v.ownBlock = some g → g = B ∨ n0 ≤ g
  bel : Below B0 w0 W
  hi : n0 ≤ W.heap.size
section
variable {w0 w W W' : World} {B0 B bl n0 : Nat} {pre : List NCk} {v : Value}
theorem SlS.grown {row : Option Nat} (h : SlS w0 B0 B bl n0 pre v W) (hg : W.grownBy W' row) (hr : ∀ r, row = some r → n0 ≤ r ∧ ∃ o : Obj, W.heap[r]? = some o ∧ o.isCells = false) (hB : B0 ≤ n0) (hs : B0 ≤ W.heap.size) : SlS w0 B0 B bl n0 pre v W' :=
  ⟨cb_grown h.c hg (fun r e => (hr r e).2), own_grown h.own hg (fun r e => (hr r e).2), h.blk, h.bel.grown hg hs (fun k e => by have := (hr k e).1; omega), Nat.le_trans h.hi hg.size⟩
theorem SlS.below (h : SlS w0 B0 B bl n0 pre v W) (hb : Below W.heap.size W W') (hs : B0 ≤ W.heap.size) : SlS w0 B0 B bl n0 pre v W' :=
  ⟨h.c.below hb, owns_kept h.own (fun g hg => hb.block g (own_lt7 h.own hg)), h.blk, below_add h.bel hb hs, Nat.le_trans h.hi hb.size⟩
end
theorem flatN_len : ∀ q : List NCk, (flatN q).length ≤ 32 * q.length
  | [] => by simp [flatN]
  | x :: r => by
    have := flatN_len r
    have := x.c.ok.1
    have e : flatN (x :: r) = x.c.l ++ flatN r := by simp [flatN]
    rw [e, List.length_append, List.length_cons]
    omega
theorem info_32 : ∃ i, Try.prog.info? 21 = some i ∧ i.zero = some (.int .i32 0) ∧ i.size = 1 ∧ i.bytes = 4 := ⟨_, rfl, rfl, rfl, rfl⟩
@[reducible] def XB (B bl : Nat) (k : Nat) : Prop := k = B ∨ k = bl
/-- The end of a round. -/
theorem sls_next {w0 W w5 w6 : World} {B0 B bl n0 : Nat} {pre : List NCk} {va : Option Addr} {vc : Nat} (h : SlS w0 B0 B bl n0 pre (.slice va (flatN pre).length vc) W) (x : NCk) (hB : B0 ≤ B) (hn : B < bl) (hn2 : bl < n0) (hb : Below W.drew.heap.size W.drew w5)
    (g6 cap6 : Nat) (ho : w6.ownsRow B 21 1 (.slice (some ⟨g6, 0, none⟩) ((flatN pre).length + x.c.l.length) cap6) ((flatN pre).length + x.c.l.length) ((flatN pre).map (Value.int .i32) ++ x.c.l.map (Value.int .i32)))
    (hg : w5.grownBy w6 (Value.slice va (flatN pre).length vc).ownBlock) (ha : (Value.slice va (flatN pre).length vc).ownBlock = some g6 ∨ g6 = w5.heap.size) (hl : g6 < w6.heap.size) (hC : Cb bl 22 #[.slice va (flatN pre).length vc] w6) :
    KeepsFrom n0 W (w6.setCell ⟨bl, 0, none⟩ (.slice (some ⟨g6, 0, none⟩) ((flatN pre).length + x.c.l.length) cap6)) ∧ KpN n0 (XB B bl) W (w6.setCell ⟨bl, 0, none⟩ (.slice (some ⟨g6, 0, none⟩) ((flatN pre).length + x.c.l.length) cap6)) ∧
      ∃ v, SlS w0 B0 B bl n0 (pre ++ [x]) v (w6.setCell ⟨bl, 0, none⟩ (.slice (some ⟨g6, 0, none⟩) ((flatN pre).length + x.c.l.length) cap6)) := by
  have hb' : Below W.heap.size W w5 := ((Below.refl _ W).drew).trans hb
  have O7 : Off (fun k => k = bl ∨ (Value.slice va (flatN pre).length vc).ownBlock = some k) W (w6.setCell ⟨bl, 0, none⟩ (.slice (some ⟨g6, 0, none⟩) ((flatN pre).length + x.c.l.length) cap6)) :=
    ((Off.of_below hb').seq (Off.of_grown hg (fun g hg => .inr hg))).seq (Off.of_grown (grown_set (w := w6) (g := bl) (o := 0) (.slice (some ⟨g6, 0, none⟩) ((flatN pre).length + x.c.l.length) cap6)) (fun g hg => by cases hg; exact .inl rfl))
  have hhi := h.hi
  have hsz := hb'.size
  have hg6 : g6 = B ∨ n0 ≤ g6 := by
    rcases ha with e | e
    · exact h.blk _ e
    · right; omega
  refine ⟨(keeps_off O7 (fun k hk _ => ?_)).from _, ⟨O7.os, O7.tape, O7.output, O7.size, fun k o hk hx hc => ?_⟩, _, heap_set _ hC, ?_, ?_, ?_, ?_⟩
  · rcases hk with rfl | hk
    · exact ⟨_, _, _, h.c⟩
    · obtain ⟨cur, hc⟩ := own_tag h.own hk
      exact ⟨_, _, _, hc⟩
  · refine (O7.block k (lt_of_heap hk) (fun hs => ?_)).trans hk
    rcases hs with rfl | hs
    · exact hx (.inr rfl)
    · rcases h.blk _ hs with rfl | hge
      · exact hx (.inl rfl)
      · obtain ⟨cur, hcu⟩ := own_tag h.own hs
        rcases hc with hc | ⟨cs, t, f, rfl, ht⟩
        · omega
        · rw [hcu] at hk
          injection hk with hk
          injection hk with _ e _
          exact ht e.symm
  · have e : flatN (pre ++ [x]) = flatN pre ++ x.c.l := by rw [flatN_app]; simp [flatN]
    rw [e, List.map_append, List.length_append]
    exact owns_kept ho (fun g hgo => by
      cases hgo
      exact (grown_set (w := w6) (g := bl) (o := 0) (.slice (some ⟨g6, 0, none⟩) ((flatN pre).length + x.c.l.length) cap6)).block g6 hl (fun e => by injection e; omega))
  · intro g hgo
    cases hgo
    exact hg6
  · exact h.bel.trans (O7.below (fun k hk => by
      rcases hk with rfl | hk
      · omega
      · rcases h.blk _ hk with rfl | hge <;> omega) (by omega))
  · exact Nat.le_trans hhi O7.size
set_option maxHeartbeats 4000000 in
theorem rv_slice {B0 rb : Nat} {l : List Int} {w : World} (h : RV B0 rb l w) (hQ : l.length ≤ 400000) (i j : Nat) (hij : i ≤ j) (hj : j ≤ l.length) :
    Calls Try.prog 11 #[.pointer (some ⟨rb, 0, none⟩), .int .i64 (i : Nat), .int .i64 (j : Nat)] w fun e w' => ∃ v, e = .returned (.tuple #[v, .int .i64 0]) ∧ Ints .i32 w' v ((l.take j).drop i) ∧ Below w.heap.size w w' := by
  obtain ⟨S, hR, hS⟩ := h
  have HRE := Lib.hid (rope_reach hR (i : Nat) (j : Nat))
  rw [reach_yes hij hj] at HRE
  have HRD := Lib.hid (fun (w' : World) (hb : Below w.heap.size w w') => rope_readS (hR.below hb))
  have HSL := Lib.hid (fun k hk => (hS k hk).2)
  obtain ⟨i0, hi0, hz0, hz1, hz2⟩ := info_32
  have u1 : 0 ≤ ((j : Nat) : Int) - ((i : Nat) : Int) := by omega
  have u2 : ((j : Nat) : Int) - ((i : Nat) : Int) ≤ 400000 := by omega
  obtain ⟨m, hm⟩ : ∃ m : Nat, j - i = m := ⟨_, rfl⟩
  have hm2 : ((j : Nat) : Int) - ((i : Nat) : Int) = (m : Int) := by omega
  have HM := Lib.hid (And.intro hm2 (show m ≤ 400000 by omega))
  have HIJ := Lib.hid (And.intro hij (And.intro hj hQ))
  clear hR hS hm hm2 hij hj hQ
  refine (callsIn_wide (n := 9)).1 ?_
  refine callsIn_of_wp_marks Try.func11 rfl trivial ?_ rfl
  simp only [Try.ntmps11, List.size_toArray, List.length_cons, List.length_nil, Nat.reduceAdd, Nat.reduceSub, Array.replicate_succ, Array.replicate_zero, List.push_toArray, List.append_toArray, List.nil_append, List.cons_append]
  refine wpIn_wide.2 ?_
  go_wp2_with (first
    | (go_at_call 28; refine HRE.out.mono ?_; clear HRE; rintro e w1 ⟨rfl, bb⟩; have B1 := Lib.hid bb; clear bb)
    | (refine wpList_make_ints _ rfl (.const (.int .i64 0)) (.tmp 20) 22 rfl w1.heap.size 21 i0 .i32 Try.underlying22 hi0 hz0 hz1 .i64 .i64 0 (((j : Nat) : Int) - ((i : Nat) : Int)) 0 m rfl rfl rfl HM.out.1 (Nat.zero_le _) (by rw [hz2]; have := HM.out.2; omega) (by unfold maxLen; have := HM.out.2; omega) (Nat.le_refl _) ?_; intro w2 ho2 hg2; refine Hid.out ?_))
  have OW2 := Lib.hid ho2
  have B2 := Lib.hid (show Below w.heap.size w w2 from B1.out.grown hg2 B1.out.size (fun k e => by cases e))
  have Z2 := Lib.hid (show w1.heap.size < w2.heap.size from own_lt7 ho2 rfl)
  have Z1 := Lib.hid (show w.heap.size ≤ w1.heap.size from B1.out.size)
  clear ho2 hg2 B1
  refine Lib.hid ?_
  go_upto_region 5 with fail
  obtain ⟨B, hB⟩ : ∃ B, w1.heap.size = B := ⟨_, rfl⟩
  obtain ⟨bl, hbl⟩ : ∃ bl, w2.heap.size = bl := ⟨_, rfl⟩
  refine with_worldT (fun W3 => Cb bl 22 #[.slice (some ⟨B, 0, none⟩) 0 m] W3 ∧ W3.ownsRow B 21 1 (.slice (some ⟨B, 0, none⟩) 0 m) 0 [] ∧ Below w.heap.size w W3 ∧ bl < W3.heap.size) ⟨by rw [← hB, ← hbl]; exact cb_new w2 _ _, by rw [← hB]; exact owns_kept OW2.out (fun g hg => heap_alloc_old w2 _ (own_lt7 OW2.out hg)), B2.out.alloc B2.out.size _, by rw [World.size_alloc]; omega⟩ fun W3 hW3 => ?_
  have HW3 := Lib.hid hW3
  have HBB := Lib.hid (show w.heap.size ≤ B ∧ B < bl from ⟨by rw [← hB]; exact Z1.out, by rw [← hB, ← hbl]; exact Z2.out⟩)
  obtain ⟨u20, hu20⟩ : ∃ u, Value.int .i64 (((j : Nat) : Int) - ((i : Nat) : Int)) = u := ⟨_, rfl⟩
  rw [hB, hbl, hu20]
  clear hW3 hB hbl OW2 B2 Z2 Z1 hu20 u1 u2 HM
  go_wp2_with (first
    | (go_at_call 25; refine (HRD.out _ HW3.out.2.2.1).mono ?_; clear HRD; rintro e w4 ⟨tb, S', rfl, ⟨R, q1, q2, q3⟩, hs, bb⟩; have TQ4 := Lib.hid (And.intro q1 (And.intro q2 (And.intro q3 hs))); have B4 := Lib.hid bb; clear q1 q2 q3 hs bb)
    | (go_at_call 29; refine (over_any tb i j _).mono ?_; rintro e W0 ⟨b1, b2, b3, rfl, p1, p2, p3, g1, g2, g3, bb⟩; have P5 := Lib.hid (And.intro p1 (And.intro p2 p3)); have G5 := Lib.hid (And.intro g1 (And.intro g2 g3)); have B5 := Lib.hid bb; clear p1 p2 p3 g1 g2 g3 bb))
  have hz4 := B4.out.size
  have hz5 := B5.out.size
  obtain ⟨hw1, hw2, hw3, hw4⟩ := HW3.out
  obtain ⟨hB1, hB2⟩ := HBB.out
  have HI0 := Lib.hid (show SlS w w.heap.size B bl W0.heap.size [] (.slice (some ⟨B, 0, none⟩) 0 m) W0 from ⟨(hw1.below B4.out).below B5.out, owns_kept hw2 (fun g hg => ((B5.out.block g (by have := own_lt7 hw2 hg; omega)).trans (B4.out.block g (own_lt7 hw2 hg)))), fun g hg => by cases hg; exact .inl rfl, below_add (below_add hw3 B4.out hw3.size) B5.out (by have := hw3.size; omega), Nat.le_refl _⟩)
  have HSS : Hid (∀ k, S' k → k < W0.heap.size ∧ ¬ XB B bl k) := Lib.hid (fun k hk => by
    obtain ⟨q1, q2, q3, q4⟩ := TQ4.out
    have a1 := q3 k hk
    refine ⟨by omega, fun hx => ?_⟩
    rcases q4 k hk with h | h
    · have := HSL.out k h
      rcases hx with rfl | rfl <;> omega
    · rcases hx with rfl | rfl <;> omega)
  have HOV : Hid (OvC S' tb R l.length b1 b2 b3 i j W0 W0) := Lib.hid ⟨P5.out.1.cell 0, P5.out.2.1.cell 0, P5.out.2.2.cell 0, TQ4.out.1.below B5.out, Below.refl _ _⟩
  have HEL := Lib.hid TQ4.out.2.1
  have HBN := Lib.hid (show bl < W0.heap.size by omega)
  have HB6 := Lib.hid (show Below w.heap.size w W0 from HI0.out.bel)
  clear hw1 hw2 hw3 hw4 hz4 hz5 HW3 B4 B5 P5 G5 TQ4 HSL
  refine (wpIn_wide (n := 9)).1 ?_
  refine wpIn_rangeFunc_ownH (α := NCk) (encs := fun x => #[cv x.c.l]) (Kp := KpN W0.heap.size (XB B bl)) (S := fun ys => flatN ys = part l (i : Nat) (j : Nat)) (Sp := fun _ => True) (N := l.length) (w0 := W0) rfl (by decide)
    (gf := 48) (lb := #[.pointer (some ⟨b1, 0, none⟩), .pointer (some ⟨b2, 0, none⟩), .pointer (some ⟨b3, 0, none⟩)]) rfl trivial (enters_of Try.func48 (by kernel_rfl) rfl) ?seq (fun h k => h.trans k) ?kb (Below.refl _ _) (fun _ => rfl)
    (fun pre W => ∃ v, SlS w w.heap.size B bl W0.heap.size pre v W)
    (fun c _ W => False)
    (fun pre A B' row ⟨v, h⟩ hg hr => ⟨v, h.grown hg hr HB6.out.size (Nat.le_trans HB6.out.size h.hi)⟩)
    (fun c pre A B' row h hg hr => h.elim)
    ⟨_, HI0.out⟩
    (fun x a' W => ∃ Bx, W0.heap.size ≤ Bx ∧ Cb Bx 58 (row (slots x.c.l)) W ∧ a' = { tmps := #[.pointer (some ⟨rb, 0, none⟩), .int .i64 (i : Nat), .int .i64 (j : Nat), undef, undef, undef, .slice none 0 0, .int .i64 0, .int .i64 0, .pointer (some ⟨bl, 0, none⟩), .pointer (some ⟨Bx, 0, none⟩), .pointer (some ⟨rb, 0, none⟩), .int .i64 (i : Nat), .int .i64 (j : Nat), .int .i64 0, .int .i64 0, .bool false, undef, .int .i64 (j : Nat), .int .i64 (i : Nat), u20, .slice (some ⟨B, 0, none⟩) 0 m, .pointer (some ⟨rb, 0, none⟩), .pointer (some ⟨tb, 0, none⟩), .int .i64 (i : Nat), .int .i64 (j : Nat), .func (.func 48) #[] #[.pointer (some ⟨b1, 0, none⟩), .pointer (some ⟨b2, 0, none⟩), .pointer (some ⟨b3, 0, none⟩)], cv x.c.l, undef, undef, undef, undef, undef], defers := [] })
    (fun x a' _ X Y row hs hg hr => by obtain ⟨Bx, h1, h2, h3⟩ := hs; exact ⟨Bx, h1, cb_grown h2 hg (fun r e => (hr r e).2), h3⟩)
    ?assign ?body ?done ?stop
  case seq =>
    intro ln J Jx W hW hJ hJx hY h0
    have HOW := HOV.out
    refine callsIn_wide.2 ((over1_any (tb := tb) (Q := l.length) (n0 := W0.heap.size) (N := l.length) (X := XB B bl) (S := S') (J := J) (Jx := Jx) 7 (fun k hk => by have := HBN.out; rcases hk with rfl | rfl <;> omega) HSS.out (fun pre A A' hA hb => hJ pre A A' none hA ⟨hb.os, hb.tape, hb.output, hb.size, fun k hk _ => hb.block k hk⟩ (fun r e => by cases e)) hY R b1 b2 b3 i j HIJ.out.1 (by rw [HEL.out]; exact HIJ.out.2.1) (by rw [HEL.out]; exact HIJ.out.2.2) (by rw [HEL.out]; exact Nat.le_refl _) W ?_ hW.size h0).mono ?_)
    · have := HOW.below hW
      exact ⟨this.c1, this.c2, this.c3, this.t, Below.refl _ _⟩
    · rintro e W' ⟨h1, ⟨q, h2, h3⟩ | ⟨q, h2⟩⟩
      · exact ⟨h1, .inl ⟨q, by show flatN q = _; rw [h2, HEL.out], h3⟩⟩
      · exact ⟨h1, .inr ⟨q, trivial, h2⟩⟩
  case kb =>
    intro W k o o' hk ho h1 h2
    have hG := grownBy_putObj' W k o'
    refine ⟨hG.os, hG.tape, hG.output, hG.size, fun k' o2 hk' hx hc => ?_⟩
    refine (hG.block k' (lt_of_heap hk') (fun e => ?_)).trans hk'
    injection e with e
    subst e
    rw [ho] at hk'
    cases hk'
    rcases hc with hc | ⟨cs, t, f, rfl, ht⟩
    · omega
    · cases h1
  case assign =>
    rintro ln pre x W K ⟨v, hI⟩ hK
    have hxl := xc_size _ x.c.ok.1
    have V4 := Lib.hid (cb_new W 58 (row zero32))
    refine regionIn_of_plain (fun _ _ h => h) rfl ?_
    go_wp2_with (refine wpList_store_row rfl 58 (.tmp 10) (.tmp 27) rfl W.heap.size (row (slots x.c.l)) rfl rfl _ _ V4.out (xinfo hxl) (by rw [hxl]; exact xz_size) (row_one _) ?_)
    have hb : Below W.heap.size W ((W.alloc (.cells (row zero32) 58)).setRow W.heap.size (row (slots x.c.l))) := below_row ((Below.refl _ W).alloc (Nat.le_refl _) _) (Nat.le_refl _)
    exact hK _ _ ((keeps_off (S := fun _ => False) (Off.of_below hb) (fun k h => h.elim)).from _) (KpN.of_below hb) ⟨v, hI.below hb (Nat.le_trans HB6.out.size hI.hi)⟩ ⟨W.heap.size, hI.hi, V4.out.set _, rfl⟩
  case body =>
    rintro ln pre x a' W hln ⟨r, hr⟩ ⟨v, hI⟩ ⟨Bx, hBx, hcx, rfl⟩ hlt
    obtain ⟨va, vc, rfl, -, -⟩ := own_shape hI.own
    have hxl := xc_size _ x.c.ok.1
    have hx32 : x.c.l.length ≤ 32 := x.c.ok.1
    have hxp : 0 < x.c.l.length := List.length_pos_iff.2 x.ne
    have hfp : (flatN pre).length ≤ 12800000 := by have := flatN_len pre; have := HIJ.out.2.2; omega
    have hbd := (Below.refl W.heap.size W).drew
    have CB0 := Lib.hid (hcx.below hbd)
    have CL0 := Lib.hid (hI.c.below hbd)
    have OW0 := Lib.hid (owns_kept hI.own (w' := W.drew) (fun g hg => rfl))
    have ZZ0 := Lib.hid (show B ≤ W.drew.heap.size by have := hI.hi; have := HBN.out; show B ≤ W.heap.size; omega)
    have c0 : W.drew.cell? ⟨bl, 0, none⟩ = some (.slice va (flatN pre).length vc) := (hI.c.below hbd).cell 0
    have hvb : ∀ g, (Value.slice va (flatN pre).length vc).ownBlock = some g → g ≠ bl := fun g hg e => by
      rcases hI.blk g hg with h | h
      · omega
      · have := HBN.out; omega
    have nBx : ∀ g, (Value.slice va (flatN pre).length vc).ownBlock = some g → g = Bx → False := fun g hg e => by
      obtain ⟨cur, hc⟩ := own_tag hI.own hg
      subst e
      rw [show W.heap[g]? = _ from hcx] at hc
      injection hc with hc
      injection hc with _ e _
      exact absurd e (by decide)
    have hBxl : Bx ≠ bl := by have := HBN.out; omega
    have FIN := Lib.hid (fun (w5 : World) (hb : Below W.drew.heap.size W.drew w5) (g6 cap6 : Nat) (w6 : World) => sls_next (w6 := w6) hI x hB1 hB2 HBN.out hb g6 cap6)
    clear hI hcx hbd
    refine wpIn_block ?_
    refine drawnIn_of_plain (fun W' => Cb Bx 58 (row (slots x.c.l)) W') (fun _ _ h => h) rfl (by kernel_rfl) ?_
    refine h_val (i := 1) (v := cv x.c.l) rfl (by kernel_rfl) (by kernel_rfl) (by kernel_rfl) (fun _ _ _ h => h) (by rfl) (fun wz hS => ?_) CB0.out ?_
    · exact ex_load_row 58 (.tmp 10) rfl Bx rfl _ _ _ _ hS Try.underlying58 rfl (xinfo hxl)
    go_frame
    refine h_all2 (i := 0) (j := 2) (by kernel_rfl) ?_ ?_
    · skip
      refine o_step rfl (by rfl) ?_
      refine wp_val (v := .slice va (flatN pre).length vc) (by go_simp) ?_
      refine ⟨CB0.out, ?_⟩
      go_frame
      refine h_all1 (i := 2) (by kernel_rfl) ?_
      refine o_call (f := 30) (args := #[cv x.c.l]) rfl (by rfl) (by go_simp) ?_
      refine (runes_any x.c.l x.c.ok _).mono ?_
      rintro e w5 ⟨rv, rfl, ro5, b5⟩
      refine ⟨rv, rfl, (CB0.out.below b5), ?_⟩
      obtain ⟨rg, rc, rfl, hrg, rcells⟩ := runes_form ro5 hxp
      have CB9 := Lib.hid (CB0.out.below b5)
      have CL9 := Lib.hid (CL0.out.below b5)
      have OW9 := Lib.hid (owns_kept OW0.out (fun g hg => b5.block g (own_lt7 OW0.out hg)))
      have RC9 := Lib.hid rcells
      have ZZ9 := Lib.hid (show B ≤ w5.heap.size by have := b5.size; have := ZZ0.out; omega)
      have OO9 := Lib.hid b5
      have c5 : w5.cell? ⟨bl, 0, none⟩ = some (.slice va (flatN pre).length vc) := (CL0.out.below b5).cell 0
      clear ro5 b5 rcells
      go_frame
      refine h_all1 (i := 3) (by kernel_rfl) ?_
      refine o_step rfl (by rfl) ?_
      refine wp_append_lies _ (.tmp 28) (.tmp 30) 22 rfl B 21 i0 (.int .i32 0) 1 4 Try.underlying22 hi0 hz0 hz1 hz2 rfl (by decide) (.slice va (flatN pre).length vc) (flatN pre).length ((flatN pre).map (Value.int .i32)) rfl OW9.out ⟨rg, 0, none⟩ x.c.l.length rc (x.c.l.map (Value.int .i32)) rfl (by simp) (RC9.out) (ints_cells _) hxp (by unfold maxLen; omega) (by omega) (by have := ZZ9.out; omega) _ rfl ?_
      intro g6 cap6 w6 ho6 hg6 ha6 hl6
      refine ⟨?_, ?_⟩
      · exact (hg6.block Bx CB9.out.lt (fun e => nBx Bx e.symm rfl)).trans CB9.out
      go_frame
      have C6 : Cb bl 22 #[.slice va (flatN pre).length vc] w6 := (hg6.block _ CL9.out.lt (fun e => by have := hvb _ e.symm; omega)).trans CL9.out
      have c6 : w6.cell? ⟨bl, 0, none⟩ = some (.slice va (flatN pre).length vc) := C6.cell 0
      have f6 := C6.frozen 0
      refine h_all1 (i := 4) (by kernel_rfl) ?_
      refine o_step rfl (by rfl) ?_
      refine wp_skip (w' := w6.setCell ⟨bl, 0, none⟩ (.slice (some ⟨g6, 0, none⟩) ((flatN pre).length + x.c.l.length) cap6)) (by go_simp) ?_
      refine ⟨?_, ?_⟩
      · have c9 : Cb Bx 58 (row (slots x.c.l)) w6 := (hg6.block Bx CB9.out.lt (fun e => nBx Bx e.symm rfl)).trans CB9.out
        exact c9.off (Off.of_grown (S := fun k => k = bl) (grown_set (w := w6) (g := bl) (o := 0) (.slice (some ⟨g6, 0, none⟩) ((flatN pre).length + x.c.l.length) cap6)) (fun g hg => by cases hg; rfl)) hBxl
      go_frame
      refine h_done (by kernel_rfl) ?_
      exact FIN.out _ OO9.out _ _ _ ho6 hg6 ha6 hl6 C6
    · skip
      refine o_call (f := 30) (args := #[cv x.c.l]) rfl (by rfl) (by go_simp) ?_
      refine (runes_any x.c.l x.c.ok _).mono ?_
      rintro e w5 ⟨rv, rfl, ro5, b5⟩
      refine ⟨rv, rfl, (CB0.out.below b5), ?_⟩
      obtain ⟨rg, rc, rfl, hrg, rcells⟩ := runes_form ro5 hxp
      have CB9 := Lib.hid (CB0.out.below b5)
      have CL9 := Lib.hid (CL0.out.below b5)
      have OW9 := Lib.hid (owns_kept OW0.out (fun g hg => b5.block g (own_lt7 OW0.out hg)))
      have RC9 := Lib.hid rcells
      have ZZ9 := Lib.hid (show B ≤ w5.heap.size by have := b5.size; have := ZZ0.out; omega)
      have OO9 := Lib.hid b5
      have c5 : w5.cell? ⟨bl, 0, none⟩ = some (.slice va (flatN pre).length vc) := (CL0.out.below b5).cell 0
      clear ro5 b5 rcells
      go_frame
      refine h_all1 (i := 0) (by kernel_rfl) ?_
      refine o_step rfl (by rfl) ?_
      refine wp_val (v := .slice va (flatN pre).length vc) (by go_simp) ?_
      refine ⟨CB9.out, ?_⟩
      go_frame
      refine h_all1 (i := 3) (by kernel_rfl) ?_
      refine o_step rfl (by rfl) ?_
      refine wp_append_lies _ (.tmp 28) (.tmp 30) 22 rfl B 21 i0 (.int .i32 0) 1 4 Try.underlying22 hi0 hz0 hz1 hz2 rfl (by decide) (.slice va (flatN pre).length vc) (flatN pre).length ((flatN pre).map (Value.int .i32)) rfl OW9.out ⟨rg, 0, none⟩ x.c.l.length rc (x.c.l.map (Value.int .i32)) rfl (by simp) (RC9.out) (ints_cells _) hxp (by unfold maxLen; omega) (by omega) (by have := ZZ9.out; omega) _ rfl ?_
      intro g6 cap6 w6 ho6 hg6 ha6 hl6
      refine ⟨?_, ?_⟩
      · exact (hg6.block Bx CB9.out.lt (fun e => nBx Bx e.symm rfl)).trans CB9.out
      go_frame
      have C6 : Cb bl 22 #[.slice va (flatN pre).length vc] w6 := (hg6.block _ CL9.out.lt (fun e => by have := hvb _ e.symm; omega)).trans CL9.out
      have c6 : w6.cell? ⟨bl, 0, none⟩ = some (.slice va (flatN pre).length vc) := C6.cell 0
      have f6 := C6.frozen 0
      refine h_all1 (i := 4) (by kernel_rfl) ?_
      refine o_step rfl (by rfl) ?_
      refine wp_skip (w' := w6.setCell ⟨bl, 0, none⟩ (.slice (some ⟨g6, 0, none⟩) ((flatN pre).length + x.c.l.length) cap6)) (by go_simp) ?_
      refine ⟨?_, ?_⟩
      · have c9 : Cb Bx 58 (row (slots x.c.l)) w6 := (hg6.block Bx CB9.out.lt (fun e => nBx Bx e.symm rfl)).trans CB9.out
        exact c9.off (Off.of_grown (S := fun k => k = bl) (grown_set (w := w6) (g := bl) (o := 0) (.slice (some ⟨g6, 0, none⟩) ((flatN pre).length + x.c.l.length) cap6)) (fun g hg => by cases hg; rfl)) hBxl
      go_frame
      refine h_done (by kernel_rfl) ?_
      exact FIN.out _ OO9.out _ _ _ ho6 hg6 ha6 hl6 C6

  case done =>
    rintro D ys W hD hS ⟨v, hI⟩ hDW
    have hfl : flatN ys = (l.take j).drop i := by rw [hS]; unfold part; simp
    obtain ⟨va, vc, rfl, -, -⟩ := own_shape hI.own
    have c0 := hI.c.cell 0
    have hG := grownBy_putObj' W D (.deferred none)
    have go := own_grown hI.own hG (fun r e => by cases e; exact ⟨_, hDW, rfl⟩)
    have gb := hI.bel.grown hG (Nat.le_trans HB6.out.size hI.hi) (fun k e => by cases e; have := HB6.out.size; omega)
    gi_wp2
    go_wp2
    refine ⟨by simp, .inl ⟨_, _, rfl, run_takeDeferred hDW, ?_⟩⟩
    refine ⟨.tuple #[.slice va (flatN ys).length vc, .int .i64 0], ?_, _, rfl, by rw [← hfl]; exact (Ints.of_owns (n := (flatN ys).length) go).1, gb⟩
    simp [results, Try.f11, go_sem]
    rw [hS]
  case stop =>
    rintro D c pre W hD _ h hDW
    exact h.elim
end Go.Proofs.Ytjgfgpkaeddjhaa
