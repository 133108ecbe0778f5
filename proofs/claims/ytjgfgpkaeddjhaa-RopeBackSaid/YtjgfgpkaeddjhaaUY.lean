
import Derived.Test.YtjgfgpkaeddjhaaUX
/- UY: Slice, with what the call owns; a rope beside a slice that stays as it is -/
namespace Go.Proofs.Ytjgfgpkaeddjhaa
open Go.RowKit Go.Shelf
set_option linter.unusedVariables false
set_option maxRecDepth 100000
attribute [local go_sem] Oper.semAt_some
theorem owns_low {w : World} {a b : Nat} {e : TypeId} {size : Nat} {v : Value} {n : Nat} {xs : List Value} (h : w.ownsRow b e size v n xs) (hab : a ≤ b) : w.ownsRow a e size v n xs := by
  refine ⟨h.1, ?_⟩
  rcases h.2 with hn | ⟨g, cap, cur, rfl, hb, rest⟩
  · exact .inl hn
  · exact .inr ⟨g, cap, cur, rfl, by omega, rest⟩
set_option maxHeartbeats 4000000 in
theorem rv_sliceO {B0 rb : Nat} {l : List Int} {w : World} (h : RV B0 rb l w) (hQ : l.length ≤ 400000) (i j : Nat) (hij : i ≤ j) (hj : j ≤ l.length) :
    Calls Try.prog 11 #[.pointer (some ⟨rb, 0, none⟩), .int .i64 (i : Nat), .int .i64 (j : Nat)] w fun e w' => ∃ v, e = .returned (.tuple #[v, .int .i64 0]) ∧ Ints .i32 w' v ((l.take j).drop i) ∧ Below w.heap.size w w' ∧ w'.ownsRow w.heap.size 21 1 v ((l.take j).drop i).length (((l.take j).drop i).map (Value.int .i32)) := by
  obtain ⟨S, hR, hS⟩ := h
  have HRE := Lib.hid (rope_reach hR (i : Nat) (j : Nat))
  rw [reach_yes hij hj] at HRE
  have HRD := Lib.hid (fun (w' : World) (hb : Below w.heap.size w w') => rope_readS (hR.below hb))
  have HSL := Lib.hid (fun k hk => (hS k hk).2)
  obtain ⟨i0, hi0, hz0, hz1, hz2⟩ := info_32
  have u1 : 0 ≤ ((j : Nat) : Int) - ((i : Nat) : Int) := by omega
  have u2 : ((j : Nat) : Int) - ((i : Nat) : Int) ≤ 400000 := by omega
  obtain ⟨m, hm⟩ : ∃ m : Nat, j - i = m := ⟨_, rfl⟩
  have hm2 : ((j : Nat) : Int) - ((i : Nat) : Int) = (m : Int) := by omega
  have HM := Lib.hid (And.intro hm2 (show m ≤ 400000 by omega))
  have HIJ := Lib.hid (And.intro hij (And.intro hj hQ))
  clear hR hS hm hm2 hij hj hQ
  refine (callsIn_wide (n := 9)).1 ?_
  refine callsIn_of_wp_marks Try.func11 rfl trivial ?_ rfl
  simp only [Try.ntmps11, List.size_toArray, List.length_cons, List.length_nil, Nat.reduceAdd, Nat.reduceSub, Array.replicate_succ, Array.replicate_zero, List.push_toArray, List.append_toArray, List.nil_append, List.cons_append]
  refine wpIn_wide.2 ?_
  go_wp2_with (first
    | (go_at_call 28; refine HRE.out.mono ?_; clear HRE; rintro e w1 ⟨rfl, bb⟩; have B1 := Lib.hid bb; clear bb)
    | (refine wpList_make_ints _ rfl (.const (.int .i64 0)) (.tmp 20) 22 rfl w1.heap.size 21 i0 .i32 Try.underlying22 hi0 hz0 hz1 .i64 .i64 0 (((j : Nat) : Int) - ((i : Nat) : Int)) 0 m rfl rfl rfl HM.out.1 (Nat.zero_le _) (by rw [hz2]; have := HM.out.2; omega) (by unfold maxLen; have := HM.out.2; omega) (Nat.le_refl _) ?_; intro w2 ho2 hg2; refine Hid.out ?_))
  have OW2 := Lib.hid ho2
  have B2 := Lib.hid (show Below w.heap.size w w2 from B1.out.grown hg2 B1.out.size (fun k e => by cases e))
  have Z2 := Lib.hid (show w1.heap.size < w2.heap.size from own_lt7 ho2 rfl)
  have Z1 := Lib.hid (show w.heap.size ≤ w1.heap.size from B1.out.size)
  clear ho2 hg2 B1
  refine Lib.hid ?_
  go_upto_region 5 with fail
  obtain ⟨B, hB⟩ : ∃ B, w1.heap.size = B := ⟨_, rfl⟩
  obtain ⟨bl, hbl⟩ : ∃ bl, w2.heap.size = bl := ⟨_, rfl⟩
  refine with_worldT (fun W3 => Cb bl 22 #[.slice (some ⟨B, 0, none⟩) 0 m] W3 ∧ W3.ownsRow B 21 1 (.slice (some ⟨B, 0, none⟩) 0 m) 0 [] ∧ Below w.heap.size w W3 ∧ bl < W3.heap.size) ⟨by rw [← hB, ← hbl]; exact cb_new w2 _ _, by rw [← hB]; exact owns_kept OW2.out (fun g hg => heap_alloc_old w2 _ (own_lt7 OW2.out hg)), B2.out.alloc B2.out.size _, by rw [World.size_alloc]; omega⟩ fun W3 hW3 => ?_
  have HW3 := Lib.hid hW3
  have HBB := Lib.hid (show w.heap.size ≤ B ∧ B < bl from ⟨by rw [← hB]; exact Z1.out, by rw [← hB, ← hbl]; exact Z2.out⟩)
  obtain ⟨u20, hu20⟩ : ∃ u, Value.int .i64 (((j : Nat) : Int) - ((i : Nat) : Int)) = u := ⟨_, rfl⟩
  rw [hB, hbl, hu20]
  clear hW3 hB hbl OW2 B2 Z2 Z1 hu20 u1 u2 HM
  go_wp2_with (first
    | (go_at_call 25; refine (HRD.out _ HW3.out.2.2.1).mono ?_; clear HRD; rintro e w4 ⟨tb, S', rfl, ⟨R, q1, q2, q3⟩, hs, bb⟩; have TQ4 := Lib.hid (And.intro q1 (And.intro q2 (And.intro q3 hs))); have B4 := Lib.hid bb; clear q1 q2 q3 hs bb)
    | (go_at_call 29; refine (over_any tb i j _).mono ?_; rintro e W0 ⟨b1, b2, b3, rfl, p1, p2, p3, g1, g2, g3, bb⟩; have P5 := Lib.hid (And.intro p1 (And.intro p2 p3)); have G5 := Lib.hid (And.intro g1 (And.intro g2 g3)); have B5 := Lib.hid bb; clear p1 p2 p3 g1 g2 g3 bb))
  have hz4 := B4.out.size
  have hz5 := B5.out.size
  obtain ⟨hw1, hw2, hw3, hw4⟩ := HW3.out
  obtain ⟨hB1, hB2⟩ := HBB.out
  have HI0 := Lib.hid (show SlS w w.heap.size B bl W0.heap.size [] (.slice (some ⟨B, 0, none⟩) 0 m) W0 from ⟨(hw1.below B4.out).below B5.out, owns_kept hw2 (fun g hg => ((B5.out.block g (by have := own_lt7 hw2 hg; omega)).trans (B4.out.block g (own_lt7 hw2 hg)))), fun g hg => by cases hg; exact .inl rfl, below_add (below_add hw3 B4.out hw3.size) B5.out (by have := hw3.size; omega), Nat.le_refl _⟩)
  have HSS : Hid (∀ k, S' k → k < W0.heap.size ∧ ¬ XB B bl k) := Lib.hid (fun k hk => by
    obtain ⟨q1, q2, q3, q4⟩ := TQ4.out
    have a1 := q3 k hk
    refine ⟨by omega, fun hx => ?_⟩
    rcases q4 k hk with h | h
    · have := HSL.out k h
      rcases hx with rfl | rfl <;> omega
    · rcases hx with rfl | rfl <;> omega)
  have HOV : Hid (OvC S' tb R l.length b1 b2 b3 i j W0 W0) := Lib.hid ⟨P5.out.1.cell 0, P5.out.2.1.cell 0, P5.out.2.2.cell 0, TQ4.out.1.below B5.out, Below.refl _ _⟩
  have HEL := Lib.hid TQ4.out.2.1
  have HBN := Lib.hid (show bl < W0.heap.size by omega)
  have HB6 := Lib.hid (show Below w.heap.size w W0 from HI0.out.bel)
  clear hw1 hw2 hw3 hw4 hz4 hz5 HW3 B4 B5 P5 G5 TQ4 HSL
  refine (wpIn_wide (n := 9)).1 ?_
  refine wpIn_rangeFunc_ownH (α := NCk) (encs := fun x => #[cv x.c.l]) (Kp := KpN W0.heap.size (XB B bl)) (S := fun ys => flatN ys = part l (i : Nat) (j : Nat)) (Sp := fun _ => True) (N := l.length) (w0 := W0) rfl (by decide)
    (gf := 48) (lb := #[.pointer (some ⟨b1, 0, none⟩), .pointer (some ⟨b2, 0, none⟩), .pointer (some ⟨b3, 0, none⟩)]) rfl trivial (enters_of Try.func48 (by kernel_rfl) rfl) ?seq (fun h k => h.trans k) ?kb (Below.refl _ _) (fun _ => rfl)
    (fun pre W => ∃ v, SlS w w.heap.size B bl W0.heap.size pre v W)
    (fun c _ W => False)
    (fun pre A B' row ⟨v, h⟩ hg hr => ⟨v, h.grown hg hr HB6.out.size (Nat.le_trans HB6.out.size h.hi)⟩)
    (fun c pre A B' row h hg hr => h.elim)
    ⟨_, HI0.out⟩
    (fun x a' W => ∃ Bx, W0.heap.size ≤ Bx ∧ Cb Bx 58 (row (slots x.c.l)) W ∧ a' = { tmps := #[.pointer (some ⟨rb, 0, none⟩), .int .i64 (i : Nat), .int .i64 (j : Nat), undef, undef, undef, .slice none 0 0, .int .i64 0, .int .i64 0, .pointer (some ⟨bl, 0, none⟩), .pointer (some ⟨Bx, 0, none⟩), .pointer (some ⟨rb, 0, none⟩), .int .i64 (i : Nat), .int .i64 (j : Nat), .int .i64 0, .int .i64 0, .bool false, undef, .int .i64 (j : Nat), .int .i64 (i : Nat), u20, .slice (some ⟨B, 0, none⟩) 0 m, .pointer (some ⟨rb, 0, none⟩), .pointer (some ⟨tb, 0, none⟩), .int .i64 (i : Nat), .int .i64 (j : Nat), .func (.func 48) #[] #[.pointer (some ⟨b1, 0, none⟩), .pointer (some ⟨b2, 0, none⟩), .pointer (some ⟨b3, 0, none⟩)], cv x.c.l, undef, undef, undef, undef, undef], defers := [] })
    (fun x a' _ X Y row hs hg hr => by obtain ⟨Bx, h1, h2, h3⟩ := hs; exact ⟨Bx, h1, cb_grown h2 hg (fun r e => (hr r e).2), h3⟩)
    ?assign ?body ?done ?stop
  case seq =>
    intro ln J Jx W hW hJ hJx hY h0
    have HOW := HOV.out
    refine callsIn_wide.2 ((over1_any (tb := tb) (Q := l.length) (n0 := W0.heap.size) (N := l.length) (X := XB B bl) (S := S') (J := J) (Jx := Jx) 7 (fun k hk => by have := HBN.out; rcases hk with rfl | rfl <;> omega) HSS.out (fun pre A A' hA hb => hJ pre A A' none hA ⟨hb.os, hb.tape, hb.output, hb.size, fun k hk _ => hb.block k hk⟩ (fun r e => by cases e)) hY R b1 b2 b3 i j HIJ.out.1 (by rw [HEL.out]; exact HIJ.out.2.1) (by rw [HEL.out]; exact HIJ.out.2.2) (by rw [HEL.out]; exact Nat.le_refl _) W ?_ hW.size h0).mono ?_)
    · have := HOW.below hW
      exact ⟨this.c1, this.c2, this.c3, this.t, Below.refl _ _⟩
    · rintro e W' ⟨h1, ⟨q, h2, h3⟩ | ⟨q, h2⟩⟩
      · exact ⟨h1, .inl ⟨q, by show flatN q = _; rw [h2, HEL.out], h3⟩⟩
      · exact ⟨h1, .inr ⟨q, trivial, h2⟩⟩
  case kb =>
    intro W k o o' hk ho h1 h2
    have hG := grownBy_putObj' W k o'
    refine ⟨hG.os, hG.tape, hG.output, hG.size, fun k' o2 hk' hx hc => ?_⟩
    refine (hG.block k' (lt_of_heap hk') (fun e => ?_)).trans hk'
    injection e with e
    subst e
    rw [ho] at hk'
    cases hk'
    rcases hc with hc | ⟨cs, t, f, rfl, ht⟩
    · omega
    · cases h1
  case assign =>
    rintro ln pre x W K ⟨v, hI⟩ hK
    have hxl := xc_size _ x.c.ok.1
    have V4 := Lib.hid (cb_new W 58 (row zero32))
    refine regionIn_of_plain (fun _ _ h => h) rfl ?_
    go_wp2_with (refine wpList_store_row rfl 58 (.tmp 10) (.tmp 27) rfl W.heap.size (row (slots x.c.l)) rfl rfl _ _ V4.out (xinfo hxl) (by rw [hxl]; exact xz_size) (row_one _) ?_)
    have hb : Below W.heap.size W ((W.alloc (.cells (row zero32) 58)).setRow W.heap.size (row (slots x.c.l))) := below_row ((Below.refl _ W).alloc (Nat.le_refl _) _) (Nat.le_refl _)
    exact hK _ _ ((keeps_off (S := fun _ => False) (Off.of_below hb) (fun k h => h.elim)).from _) (KpN.of_below hb) ⟨v, hI.below hb (Nat.le_trans HB6.out.size hI.hi)⟩ ⟨W.heap.size, hI.hi, V4.out.set _, rfl⟩
  case body =>
    rintro ln pre x a' W hln ⟨r, hr⟩ ⟨v, hI⟩ ⟨Bx, hBx, hcx, rfl⟩ hlt
    obtain ⟨va, vc, rfl, -, -⟩ := own_shape hI.own
    have hxl := xc_size _ x.c.ok.1
    have hx32 : x.c.l.length ≤ 32 := x.c.ok.1
    have hxp : 0 < x.c.l.length := List.length_pos_iff.2 x.ne
    have hfp : (flatN pre).length ≤ 12800000 := by have := flatN_len pre; have := HIJ.out.2.2; omega
    have hbd := (Below.refl W.heap.size W).drew
    have CB0 := Lib.hid (hcx.below hbd)
    have CL0 := Lib.hid (hI.c.below hbd)
    have OW0 := Lib.hid (owns_kept hI.own (w' := W.drew) (fun g hg => rfl))
    have ZZ0 := Lib.hid (show B ≤ W.drew.heap.size by have := hI.hi; have := HBN.out; show B ≤ W.heap.size; omega)
    have c0 : W.drew.cell? ⟨bl, 0, none⟩ = some (.slice va (flatN pre).length vc) := (hI.c.below hbd).cell 0
    have hvb : ∀ g, (Value.slice va (flatN pre).length vc).ownBlock = some g → g ≠ bl := fun g hg e => by
      rcases hI.blk g hg with h | h
      · omega
      · have := HBN.out; omega
    have nBx : ∀ g, (Value.slice va (flatN pre).length vc).ownBlock = some g → g = Bx → False := fun g hg e => by
      obtain ⟨cur, hc⟩ := own_tag hI.own hg
      subst e
      rw [show W.heap[g]? = _ from hcx] at hc
      injection hc with hc
      injection hc with _ e _
      exact absurd e (by decide)
    have hBxl : Bx ≠ bl := by have := HBN.out; omega
    have FIN := Lib.hid (fun (w5 : World) (hb : Below W.drew.heap.size W.drew w5) (g6 cap6 : Nat) (w6 : World) => sls_next (w6 := w6) hI x hB1 hB2 HBN.out hb g6 cap6)
    clear hI hcx hbd
    refine wpIn_block ?_
    refine drawnIn_of_plain (fun W' => Cb Bx 58 (row (slots x.c.l)) W') (fun _ _ h => h) rfl (by kernel_rfl) ?_
    refine h_val (i := 1) (v := cv x.c.l) rfl (by kernel_rfl) (by kernel_rfl) (by kernel_rfl) (fun _ _ _ h => h) (by rfl) (fun wz hS => ?_) CB0.out ?_
    · exact ex_load_row 58 (.tmp 10) rfl Bx rfl _ _ _ _ hS Try.underlying58 rfl (xinfo hxl)
    go_frame
    refine h_all2 (i := 0) (j := 2) (by kernel_rfl) ?_ ?_
    · skip
      refine o_step rfl (by rfl) ?_
      refine wp_val (v := .slice va (flatN pre).length vc) (by go_simp) ?_
      refine ⟨CB0.out, ?_⟩
      go_frame
      refine h_all1 (i := 2) (by kernel_rfl) ?_
      refine o_call (f := 30) (args := #[cv x.c.l]) rfl (by rfl) (by go_simp) ?_
      refine (runes_any x.c.l x.c.ok _).mono ?_
      rintro e w5 ⟨rv, rfl, ro5, b5⟩
      refine ⟨rv, rfl, (CB0.out.below b5), ?_⟩
      obtain ⟨rg, rc, rfl, hrg, rcells⟩ := runes_form ro5 hxp
      have CB9 := Lib.hid (CB0.out.below b5)
      have CL9 := Lib.hid (CL0.out.below b5)
      have OW9 := Lib.hid (owns_kept OW0.out (fun g hg => b5.block g (own_lt7 OW0.out hg)))
      have RC9 := Lib.hid rcells
      have ZZ9 := Lib.hid (show B ≤ w5.heap.size by have := b5.size; have := ZZ0.out; omega)
      have OO9 := Lib.hid b5
      have c5 : w5.cell? ⟨bl, 0, none⟩ = some (.slice va (flatN pre).length vc) := (CL0.out.below b5).cell 0
      clear ro5 b5 rcells
      go_frame
      refine h_all1 (i := 3) (by kernel_rfl) ?_
      refine o_step rfl (by rfl) ?_
      refine wp_append_lies _ (.tmp 28) (.tmp 30) 22 rfl B 21 i0 (.int .i32 0) 1 4 Try.underlying22 hi0 hz0 hz1 hz2 rfl (by decide) (.slice va (flatN pre).length vc) (flatN pre).length ((flatN pre).map (Value.int .i32)) rfl OW9.out ⟨rg, 0, none⟩ x.c.l.length rc (x.c.l.map (Value.int .i32)) rfl (by simp) (RC9.out) (ints_cells _) hxp (by unfold maxLen; omega) (by omega) (by have := ZZ9.out; omega) _ rfl ?_
      intro g6 cap6 w6 ho6 hg6 ha6 hl6
      refine ⟨?_, ?_⟩
      · exact (hg6.block Bx CB9.out.lt (fun e => nBx Bx e.symm rfl)).trans CB9.out
      go_frame
      have C6 : Cb bl 22 #[.slice va (flatN pre).length vc] w6 := (hg6.block _ CL9.out.lt (fun e => by have := hvb _ e.symm; omega)).trans CL9.out
      have c6 : w6.cell? ⟨bl, 0, none⟩ = some (.slice va (flatN pre).length vc) := C6.cell 0
      have f6 := C6.frozen 0
      refine h_all1 (i := 4) (by kernel_rfl) ?_
      refine o_step rfl (by rfl) ?_
      refine wp_skip (w' := w6.setCell ⟨bl, 0, none⟩ (.slice (some ⟨g6, 0, none⟩) ((flatN pre).length + x.c.l.length) cap6)) (by go_simp) ?_
      refine ⟨?_, ?_⟩
      · have c9 : Cb Bx 58 (row (slots x.c.l)) w6 := (hg6.block Bx CB9.out.lt (fun e => nBx Bx e.symm rfl)).trans CB9.out
        exact c9.off (Off.of_grown (S := fun k => k = bl) (grown_set (w := w6) (g := bl) (o := 0) (.slice (some ⟨g6, 0, none⟩) ((flatN pre).length + x.c.l.length) cap6)) (fun g hg => by cases hg; rfl)) hBxl
      go_frame
      refine h_done (by kernel_rfl) ?_
      exact FIN.out _ OO9.out _ _ _ ho6 hg6 ha6 hl6 C6
    · skip
      refine o_call (f := 30) (args := #[cv x.c.l]) rfl (by rfl) (by go_simp) ?_
      refine (runes_any x.c.l x.c.ok _).mono ?_
      rintro e w5 ⟨rv, rfl, ro5, b5⟩
      refine ⟨rv, rfl, (CB0.out.below b5), ?_⟩
      obtain ⟨rg, rc, rfl, hrg, rcells⟩ := runes_form ro5 hxp
      have CB9 := Lib.hid (CB0.out.below b5)
      have CL9 := Lib.hid (CL0.out.below b5)
      have OW9 := Lib.hid (owns_kept OW0.out (fun g hg => b5.block g (own_lt7 OW0.out hg)))
      have RC9 := Lib.hid rcells
      have ZZ9 := Lib.hid (show B ≤ w5.heap.size by have := b5.size; have := ZZ0.out; omega)
      have OO9 := Lib.hid b5
      have c5 : w5.cell? ⟨bl, 0, none⟩ = some (.slice va (flatN pre).length vc) := (CL0.out.below b5).cell 0
      clear ro5 b5 rcells
      go_frame
      refine h_all1 (i := 0) (by kernel_rfl) ?_
      refine o_step rfl (by rfl) ?_
      refine wp_val (v := .slice va (flatN pre).length vc) (by go_simp) ?_
      refine ⟨CB9.out, ?_⟩
      go_frame
      refine h_all1 (i := 3) (by kernel_rfl) ?_
      refine o_step rfl (by rfl) ?_
      refine wp_append_lies _ (.tmp 28) (.tmp 30) 22 rfl B 21 i0 (.int .i32 0) 1 4 Try.underlying22 hi0 hz0 hz1 hz2 rfl (by decide) (.slice va (flatN pre).length vc) (flatN pre).length ((flatN pre).map (Value.int .i32)) rfl OW9.out ⟨rg, 0, none⟩ x.c.l.length rc (x.c.l.map (Value.int .i32)) rfl (by simp) (RC9.out) (ints_cells _) hxp (by unfold maxLen; omega) (by omega) (by have := ZZ9.out; omega) _ rfl ?_
      intro g6 cap6 w6 ho6 hg6 ha6 hl6
      refine ⟨?_, ?_⟩
      · exact (hg6.block Bx CB9.out.lt (fun e => nBx Bx e.symm rfl)).trans CB9.out
      go_frame
      have C6 : Cb bl 22 #[.slice va (flatN pre).length vc] w6 := (hg6.block _ CL9.out.lt (fun e => by have := hvb _ e.symm; omega)).trans CL9.out
      have c6 : w6.cell? ⟨bl, 0, none⟩ = some (.slice va (flatN pre).length vc) := C6.cell 0
      have f6 := C6.frozen 0
      refine h_all1 (i := 4) (by kernel_rfl) ?_
      refine o_step rfl (by rfl) ?_
      refine wp_skip (w' := w6.setCell ⟨bl, 0, none⟩ (.slice (some ⟨g6, 0, none⟩) ((flatN pre).length + x.c.l.length) cap6)) (by go_simp) ?_
      refine ⟨?_, ?_⟩
      · have c9 : Cb Bx 58 (row (slots x.c.l)) w6 := (hg6.block Bx CB9.out.lt (fun e => nBx Bx e.symm rfl)).trans CB9.out
        exact c9.off (Off.of_grown (S := fun k => k = bl) (grown_set (w := w6) (g := bl) (o := 0) (.slice (some ⟨g6, 0, none⟩) ((flatN pre).length + x.c.l.length) cap6)) (fun g hg => by cases hg; rfl)) hBxl
      go_frame
      refine h_done (by kernel_rfl) ?_
      exact FIN.out _ OO9.out _ _ _ ho6 hg6 ha6 hl6 C6

  case done =>
    rintro D ys W hD hS ⟨v, hI⟩ hDW
    have hfl : flatN ys = (l.take j).drop i := by rw [hS]; unfold part; simp
    obtain ⟨va, vc, rfl, -, -⟩ := own_shape hI.own
    have c0 := hI.c.cell 0
    have hG := grownBy_putObj' W D (.deferred none)
    have go := own_grown hI.own hG (fun r e => by cases e; exact ⟨_, hDW, rfl⟩)
    have gb := hI.bel.grown hG (Nat.le_trans HB6.out.size hI.hi) (fun k e => by cases e; have := HB6.out.size; omega)
    gi_wp2
    go_wp2
    refine ⟨by simp, .inl ⟨_, _, rfl, run_takeDeferred hDW, ?_⟩⟩
    refine ⟨.tuple #[.slice va (flatN ys).length vc, .int .i64 0], ?_, _, rfl, by rw [← hfl]; exact (Ints.of_owns (n := (flatN ys).length) go).1, gb, by rw [← hfl]; exact owns_low go hB1⟩
    simp [results, Try.f11, go_sem]
    rw [hS]
  case stop =>
    rintro D c pre W hD _ h hDW
    exact h.elim

/-- A slice that reads so whatever happens within S. -/
def IntsK (S : Nat → Prop) (W : World) (v : Value) (x : List Int) : Prop := ∀ W', Off S W W' → Ints .i32 W' v x
/-- A rope, and a slice beside it. -/
def KV (B rb : Nat) (l : List Int) (v : Value) (x : List Int) (W : World) : Prop := ∃ S : Nat → Prop, Rp S rb l W ∧ (∀ k, S k → B ≤ k ∧ k < W.heap.size) ∧ IntsK S W v x
section
variable {B rb : Nat} {l m x : List Int} {v : Value} {w w' W : World}
theorem KV.rv (h : KV B rb l v x W) : RV B rb l W := by
  obtain ⟨S, h1, h2, -⟩ := h
  exact ⟨S, h1, h2⟩
theorem KV.ints (h : KV B rb l v x W) : Ints .i32 W v x := by
  obtain ⟨S, -, -, h3⟩ := h
  exact h3 W (Off.refl S W)
theorem KV.below (h : KV B rb l v x w) (hb : Below w.heap.size w w') : KV B rb l v x w' := by
  obtain ⟨S, h1, h2, h3⟩ := h
  exact ⟨S, h1.below hb, fun k hk => ⟨(h2 k hk).1, Nat.lt_of_lt_of_le (h2 k hk).2 hb.size⟩, fun W' ho => h3 W' (Off.below_l hb ho)⟩
theorem IntsK.next {S S' : Nat → Prop} (h : IntsK S w v x) (ho : Off S w w') (hs : ∀ k, S' k → UpS S w k) : IntsK S' w' v x := fun W' h2 => h W' (ho.trans (h2.mono hs))
theorem kv_all (h : RV B rb l w) (hQ : l.length ≤ 400000) {n : Nat} (hn : l.length = n) : Calls Try.prog 11 #[.pointer (some ⟨rb, 0, none⟩), .int .i64 0, .int .i64 (n : Nat)] w fun e w' => ∃ a c, e = .returned (.tuple #[.slice a n c, .int .i64 0]) ∧ KV B rb l (.slice a n c) l w' ∧ Below w.heap.size w w' := by
  subst hn
  have hsl := rv_sliceO h hQ 0 l.length (Nat.zero_le _) (Nat.le_refl _)
  rw [List.take_of_length_le (Nat.le_refl _), List.drop_zero] at hsl
  obtain ⟨S, h1, h2⟩ := h
  refine hsl.mono ?_
  rintro e w' ⟨v, rfl, hv, hb, ho⟩
  obtain ⟨a, c, rfl⟩ := hv.shape
  refine ⟨a, c, rfl, ⟨S, h1.below hb, fun k hk => ⟨(h2 k hk).1, Nat.lt_of_lt_of_le (h2 k hk).2 hb.size⟩, fun W' hW => ?_⟩, hb⟩
  exact (Ints.of_owns (owns_kept ho (fun g hg => hW.block g (own_lt7 ho hg) (fun hs => by have := (h2 g hs).2; have := own_base ho hg; omega)))).1
theorem kv_insE (h : KV B rb l v x w) (hQ : l.length + m.length + 64 ≤ 400000) (i : Int) (u : Value) (hv : Ints .i32 w u m) {E : Int} (hE : insE l m i = E) {L : List Int} (hL : insL l m i = L) :
    Calls Try.prog 16 #[.pointer (some ⟨rb, 0, none⟩), .int .i64 i, u] w fun e w' => e = .returned (.int .i64 E) ∧ KV B rb L v x w' ∧ Below B w w' := by
  subst hE hL
  have hB := h.rv.hB
  obtain ⟨S, h1, h2, h3⟩ := h
  refine (rope_ins h1 (fun k hk => (h2 k hk).2) hQ i u hv).mono ?_
  rintro e w' ⟨rfl, S', q1, q2, q3⟩
  exact ⟨rfl, ⟨S', q1, fun k hk => ⟨(q2 k hk).1.elim (fun h => (h2 k h).1) (fun h => Nat.le_trans hB h), (q2 k hk).2⟩, h3.next q3 (fun k hk => (q2 k hk).1)⟩, q3.below (fun k hk => (h2 k hk).1) hB⟩
theorem kv_delE (h : KV B rb l v x w) (hQ : l.length + 64 ≤ 400000) (i j : Int) {E : Int} (hE : reachE l.length i j = E) {L : List Int} (hL : delL l i j = L) :
    Calls Try.prog 17 #[.pointer (some ⟨rb, 0, none⟩), .int .i64 i, .int .i64 j] w fun e w' => e = .returned (.int .i64 E) ∧ KV B rb L v x w' ∧ Below B w w' := by
  subst hE hL
  have hB := h.rv.hB
  obtain ⟨S, h1, h2, h3⟩ := h
  refine (rope_del h1 (fun k hk => (h2 k hk).2) hQ i j).mono ?_
  rintro e w' ⟨rfl, S', q1, q2, q3⟩
  exact ⟨rfl, ⟨S', q1, fun k hk => ⟨(q2 k hk).1.elim (fun h => (h2 k h).1) (fun h => Nat.le_trans hB h), (q2 k hk).2⟩, h3.next q3 (fun k hk => (q2 k hk).1)⟩, q3.below (fun k hk => (h2 k hk).1) hB⟩
/-- Two ropes, and a slice beside them. -/
def KV2 (B rb : Nat) (l : List Int) (sb : Nat) (m : List Int) (v : Value) (x : List Int) (W : World) : Prop := ∃ S T : Nat → Prop, Rp S rb l W ∧ Rp T sb m W ∧ (∀ k, S k → B ≤ k ∧ k < W.heap.size) ∧ (∀ k, T k → B ≤ k ∧ k < W.heap.size) ∧ (∀ k, S k → ¬ T k) ∧ IntsK (fun k => S k ∨ T k) W v x
theorem KV2.below {sb : Nat} (h : KV2 B rb l sb m v x w) (hb : Below w.heap.size w w') : KV2 B rb l sb m v x w' := by
  obtain ⟨S, T, h1, h2, h3, h4, h5, h6⟩ := h
  exact ⟨S, T, h1.below hb, h2.below hb, fun k hk => ⟨(h3 k hk).1, Nat.lt_of_lt_of_le (h3 k hk).2 hb.size⟩, fun k hk => ⟨(h4 k hk).1, Nat.lt_of_lt_of_le (h4 k hk).2 hb.size⟩, h5, fun W' ho => h6 W' (Off.below_l hb ho)⟩
theorem KV2.r2 {sb : Nat} (h : KV2 B rb l sb m v x w) : R2 B rb l sb m w := by
  obtain ⟨S, T, h1, h2, h3, h4, h5, h6⟩ := h
  exact ⟨S, T, h1, h2, h3, h4, h5⟩
theorem KV2.ints {sb : Nat} (h : KV2 B rb l sb m v x w) : Ints .i32 w v x := by
  obtain ⟨S, T, h1, h2, h3, h4, h5, h6⟩ := h
  exact h6 w (Off.refl _ w)
theorem kv_split (h : KV B rb l v x w) (hQ : l.length + 32 ≤ 200000) (i : Int) (h0 : 0 ≤ i) (hi : i ≤ (l.length : Nat)) : Calls Try.prog 14 #[.pointer (some ⟨rb, 0, none⟩), .int .i64 i] w fun e w' => ∃ nb : Nat, e = .returned (.tuple #[.pointer (some ⟨nb, 0, none⟩), .int .i64 0]) ∧ KV2 B rb (l.take i.toNat) nb (l.drop i.toNat) v x w' ∧ Below B w w' := by
  obtain ⟨p, rfl⟩ : ∃ k : Nat, i = (k : Nat) := ⟨i.toNat, by omega⟩
  have hB := h.rv.hB
  obtain ⟨S, h1, h2, h3⟩ := h
  refine (rope_split h1 (fun k hk => (h2 k hk).2) hQ p (by omega)).mono ?_
  rintro e w' ⟨nb, S1, S2, rfl, q1, q2, q3, q4, q5, q6⟩
  rw [Int.toNat_natCast]
  refine ⟨nb, rfl, ⟨S1, S2, q1, q2, fun k hk => ⟨(q3 k hk).1.elim (fun h => (h2 k h).1) (fun h => Nat.le_trans hB h), (q3 k hk).2⟩, fun k hk => ⟨Nat.le_trans hB (q4 k hk).1, (q4 k hk).2⟩, q5, h3.next q6 (fun k hk => ?_)⟩, q6.below (fun k hk => (h2 k hk).1) hB⟩
  rcases hk with hk | hk
  · exact (q3 k hk).1
  · exact .inr (q4 k hk).1
theorem kv_concat {sb : Nat} (h : KV2 B rb l sb m v x w) (hQ : l.length + m.length + 32 ≤ 400000) {L : List Int} (hL : l ++ m = L) : Calls Try.prog 18 #[.pointer (some ⟨rb, 0, none⟩), .pointer (some ⟨sb, 0, none⟩)] w fun e w' => e = .returned (.int .i64 0) ∧ KV B rb L v x w' ∧ Below B w w' := by
  subst hL
  have hB := h.r2.fst.hB
  obtain ⟨S, T, h1, h2, h3, h4, h5, h6⟩ := h
  refine (rope_concat h1 h2 (fun k ht hs => h5 k hs ht) (fun k hk => (h3 k hk).2) (fun k hk => (h4 k hk).2) hQ).mono ?_
  rintro e w' ⟨rfl, q1, q2⟩
  refine ⟨rfl, ⟨_, q1, fun k hk => ⟨hk.1.elim (fun h => (h3 k h).1) (fun h => Nat.le_trans hB h), hk.2⟩, fun W' ho => h6 W' ((q2.mono (fun k hk => .inl hk)).trans (ho.mono (fun k hk => ?_)))⟩, q2.below (fun k hk => (h3 k hk).1) hB⟩
  rcases hk.1 with hs | hs
  · exact .inl (.inl hs)
  · exact .inr hs
theorem kv_new2 (h : KV B rb l v x w) : Calls Try.prog 23 #[] w fun e w' => ∃ sb : Nat, e = .returned (.pointer (some ⟨sb, 0, none⟩)) ∧ KV2 B rb l sb [] v x w' ∧ Below w.heap.size w w' := by
  have hB := h.rv.hB
  obtain ⟨S, h1, h2, h3⟩ := h
  refine (rope_new w).mono ?_
  rintro e w' ⟨sb, rfl, h, hb⟩
  refine ⟨sb, rfl, ⟨S, _, h1.below hb, h, fun k hk => ⟨(h2 k hk).1, Nat.lt_of_lt_of_le (h2 k hk).2 hb.size⟩, fun k hk => ⟨Nat.le_trans hB hk.1, hk.2⟩, fun k h h' => ?_, fun W' ho => h3 W' ((Off.of_below hb).trans (ho.mono (fun k hk => ?_)))⟩, hb⟩
  · have := (h2 k h).2
    have := h'.1
    omega
  · rcases hk with hk | hk
    · exact .inl hk
    · exact .inr hk.1
end
end Go.Proofs.Ytjgfgpkaeddjhaa
