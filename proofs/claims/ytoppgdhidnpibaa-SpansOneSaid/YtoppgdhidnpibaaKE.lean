
import Derived.Test.YtoppgdhidnpibaaKD
/- KE: the spans between two places, in memory of their own -/
namespace Go.Proofs.Ytoppgdhidnpibaa
open Go.RowKit Go.Shelf
set_option linter.unusedVariables false
set_option maxRecDepth 100000
attribute [local go_sem] Oper.semAt_some
theorem over_any (tb : Nat) (i j : Nat) (w : World) : Calls Try.prog 26 #[.pointer (some ⟨tb, 0, none⟩), .int .i64 (i : Nat), .int .i64 (j : Nat)] w fun e w' => ∃ b1 b2 b3 : Nat, e = .returned (.func (.func 42) #[] #[.pointer (some ⟨b1, 0, none⟩), .pointer (some ⟨b2, 0, none⟩), .pointer (some ⟨b3, 0, none⟩)]) ∧
      Cb b1 27 #[.pointer (some ⟨tb, 0, none⟩)] w' ∧ Cb b2 3 #[.int .i64 (i : Nat)] w' ∧ Cb b3 3 #[.int .i64 (j : Nat)] w' ∧ w.heap.size ≤ b1 ∧ w.heap.size ≤ b2 ∧ w.heap.size ≤ b3 ∧ Below w.heap.size w w' := by
  have H1 := Lib.hid (show Cb w.heap.size 27 #[.pointer (some ⟨tb, 0, none⟩)] (((w.alloc (.cells #[.pointer (some ⟨tb, 0, none⟩)] 27)).alloc (.cells #[.int .i64 (i : Nat)] 3)).alloc (.cells #[.int .i64 (j : Nat)] 3)) from ((cb_new w _ _).alloc _).alloc _)
  have H2 := Lib.hid (show Cb (w.heap.size + 1) 3 #[.int .i64 (i : Nat)] (((w.alloc (.cells #[.pointer (some ⟨tb, 0, none⟩)] 27)).alloc (.cells #[.int .i64 (i : Nat)] 3)).alloc (.cells #[.int .i64 (j : Nat)] 3)) from by
    have := (cb_new (w.alloc (.cells #[.pointer (some ⟨tb, 0, none⟩)] 27)) 3 #[.int .i64 (i : Nat)]).alloc (.cells #[.int .i64 (j : Nat)] 3); simpa using this)
  have H3 := Lib.hid (show Cb (w.heap.size + 1 + 1) 3 #[.int .i64 (j : Nat)] (((w.alloc (.cells #[.pointer (some ⟨tb, 0, none⟩)] 27)).alloc (.cells #[.int .i64 (i : Nat)] 3)).alloc (.cells #[.int .i64 (j : Nat)] 3)) from by
    have := cb_new ((w.alloc (.cells #[.pointer (some ⟨tb, 0, none⟩)] 27)).alloc (.cells #[.int .i64 (i : Nat)] 3)) 3 #[.int .i64 (j : Nat)]; simpa using this)
  have H4 := Lib.hid ((((Below.refl w.heap.size w).alloc (Nat.le_refl _) (.cells #[.pointer (some ⟨tb, 0, none⟩)] 27)).alloc (by simp) (.cells #[.int .i64 (i : Nat)] 3)).alloc (by simp; omega) (.cells #[.int .i64 (j : Nat)] 3))
  go_enter Try.func26, Try.ntmps26
  go_wp2
  go_ret
  exact ⟨_, _, _, rfl, H1.out, H2.out, H3.out, Nat.le_refl _, Nat.le_succ _, by omega, H4.out⟩

/-- What AppendSeq keeps between two rounds. -/
structure ApS (w0 : World) (bl n0 : Nat) (pre : List NCk) (v : Value) (W : World) : Prop where
  c : Cb bl 22 #[v] W
  own : W.ownsRow n0 44 2 v (flatN pre).length (Go.Proofs.Ytoppgdhidnpibaa.fl CkC (flatN pre))
  bel : Below bl w0 W
  hi : n0 ≤ W.heap.size
section
variable {w0 w W W' : World} {bl n0 : Nat} {pre : List NCk} {v : Value}
theorem ApS.grown {row : Option Nat} (h : ApS w0 bl n0 pre v W) (hg : W.grownBy W' row) (hr : ∀ r, row = some r → n0 ≤ r ∧ ∃ o : Obj, W.heap[r]? = some o ∧ o.isCells = false) (hB : bl ≤ n0) (hs : bl ≤ W.heap.size) : ApS w0 bl n0 pre v W' :=
  ⟨cb_grown h.c hg (fun r e => (hr r e).2), own_grown h.own hg (fun r e => (hr r e).2), h.bel.grown hg hs (fun k e => by have := (hr k e).1; omega), Nat.le_trans h.hi hg.size⟩
theorem ApS.below (h : ApS w0 bl n0 pre v W) (hb : Below W.heap.size W W') (hs : bl ≤ W.heap.size) : ApS w0 bl n0 pre v W' :=
  ⟨h.c.below hb, owns_kept h.own (fun g hg => hb.block g (own_lt7 h.own hg)), below_add h.bel hb hs, Nat.le_trans h.hi hb.size⟩
end
theorem flatN_len : ∀ q : List NCk, (flatN q).length = q.length := fun q => by simp [flatN]
theorem info_sp : ∃ i, Try.prog.info? 44 = some i ∧ i.zero = some K_X.z ∧ i.size = 2 ∧ i.bytes = 16 := ⟨_, rfl, rfl, rfl, rfl⟩
/-- The end of a round. -/
theorem aps_next {w0 W w5 w6 : World} {bl n0 : Nat} {pre : List NCk} {va : Option Addr} {vc : Nat} (h : ApS w0 bl n0 pre (.slice va (flatN pre).length vc) W) (x : NCk) (hn : bl < n0) (hb' : Below W.heap.size W w5)
    (g6 cap6 : Nat) (ho : w6.ownsRow n0 44 2 (.slice (some ⟨g6, 0, none⟩) ((flatN pre).length + 1) cap6) ((flatN pre).length + 1) (Go.Proofs.Ytoppgdhidnpibaa.fl CkC (flatN pre) ++ (crow x.c).toList))
    (hg : w5.grownBy w6 (Value.slice va (flatN pre).length vc).ownBlock) (hl : g6 < w6.heap.size) (hC : Cb bl 22 #[.slice va (flatN pre).length vc] w6) :
    KeepsFrom n0 W (w6.setCell ⟨bl, 0, none⟩ (.slice (some ⟨g6, 0, none⟩) ((flatN pre).length + 1) cap6)) ∧ KpN n0 (fun k => k = bl) W (w6.setCell ⟨bl, 0, none⟩ (.slice (some ⟨g6, 0, none⟩) ((flatN pre).length + 1) cap6)) ∧
      ∃ v, ApS w0 bl n0 (pre ++ [x]) v (w6.setCell ⟨bl, 0, none⟩ (.slice (some ⟨g6, 0, none⟩) ((flatN pre).length + 1) cap6)) := by
  have O7 : Off (fun k => k = bl ∨ (Value.slice va (flatN pre).length vc).ownBlock = some k) W (w6.setCell ⟨bl, 0, none⟩ (.slice (some ⟨g6, 0, none⟩) ((flatN pre).length + 1) cap6)) :=
    ((Off.of_below hb').seq (Off.of_grown hg (fun g hg => .inr hg))).seq (Off.of_grown (grown_set (w := w6) (g := bl) (o := 0) (.slice (some ⟨g6, 0, none⟩) ((flatN pre).length + 1) cap6)) (fun g hg => by cases hg; exact .inl rfl))
  have hhi := h.hi
  have hsz := hb'.size
  have hob : ∀ g, (Value.slice va (flatN pre).length vc).ownBlock = some g → n0 ≤ g := fun g hg => own_base h.own hg
  have hg6 : n0 ≤ g6 := own_base ho rfl
  refine ⟨(keeps_off O7 (fun k hk _ => ?_)).from _, ⟨O7.os, O7.tape, O7.output, O7.size, fun k o hk hx hc => ?_⟩, _, heap_set _ hC, ?_, ?_, ?_⟩
  · rcases hk with rfl | hk
    · exact ⟨_, _, _, h.c⟩
    · obtain ⟨cur, hc⟩ := own_tag h.own hk
      exact ⟨_, _, _, hc⟩
  · refine (O7.block k (lt_of_heap hk) (fun hs => ?_)).trans hk
    rcases hs with rfl | hs
    · exact hx rfl
    · have hge := hob _ hs
      obtain ⟨cur, hcu⟩ := own_tag h.own hs
      rcases hc with hc | ⟨cs, t, f, rfl, ht⟩
      · omega
      · rw [hcu] at hk
        injection hk with hk
        injection hk with _ e _
        exact ht e.symm
  · have e : flatN (pre ++ [x]) = flatN pre ++ [x.c] := by rw [flatN_app]; simp [flatN]
    rw [e, List.length_append, fl_app, fl_one]
    exact owns_kept ho (fun g hgo => by
      cases hgo
      exact (grown_set (w := w6) (g := bl) (o := 0) (.slice (some ⟨g6, 0, none⟩) ((flatN pre).length + 1) cap6)).block g6 hl (fun e => by injection e; omega))
  · exact h.bel.trans (O7.below (fun k hk => by
      rcases hk with rfl | hk
      · omega
      · have := hob _ hk; omega) (by omega))
  · exact Nat.le_trans hhi O7.size
set_option maxHeartbeats 4000000 in
theorem appendseq_any {S : Nat → Prop} {tb Q : Nat} (R : TC) (b1 b2 b3 i j : Nat) (w : World) (h : OvC S tb R Q b1 b2 b3 i j w w) (hS : ∀ k, S k → k < w.heap.size) (hij : i ≤ j) (hj : j ≤ Wc.ln (R.el Wc)) (hQ : Wc.ln (R.el Wc) ≤ 4000000000) (hN : (R.el Wc).length ≤ 400000) :
    Calls Try.prog 41 #[.slice none 0 0, .func (.func 42) #[] #[.pointer (some ⟨b1, 0, none⟩), .pointer (some ⟨b2, 0, none⟩), .pointer (some ⟨b3, 0, none⟩)]] w fun e w' => ∃ v, e = .returned v ∧ w'.ownsRow (w.heap.size + 1) 44 2 v (ptc (R.el Wc) (i : Nat) (j : Nat)).length (Go.Proofs.Ytoppgdhidnpibaa.fl CkC (ptc (R.el Wc) (i : Nat) (j : Nat))) ∧ Below w.heap.size w w' := by
  obtain ⟨ie, hie, hz, hs, hby⟩ := info_sp
  have HOV := Lib.hid h
  have HIJ := Lib.hid (And.intro hij (And.intro hj hQ))
  have HNN := Lib.hid hN
  have HSS := Lib.hid hS
  clear h hS hij hj hQ hN
  refine (callsIn_wide (n := 9)).1 ?_
  refine callsIn_of_wp_marks Try.func41 rfl trivial ?_ rfl
  simp only [Try.ntmps41, List.size_toArray, List.length_cons, List.length_nil, Nat.reduceAdd, Nat.reduceSub, Array.replicate_succ, Array.replicate_zero, List.push_toArray, List.append_toArray, List.nil_append, List.cons_append]
  refine wpIn_wide.2 ?_
  go_upto_region 1 with fail
  refine with_worldT (fun W0 => W0 = w.alloc (.cells #[.slice none 0 0] 22)) rfl fun W0 hW0 => ?_
  have hsz0 : W0.heap.size = w.heap.size + 1 := by rw [hW0, World.size_alloc]
  have HZ0 := Lib.hid hsz0
  have HB0 := Lib.hid (show Below w.heap.size w W0 by rw [hW0]; exact (Below.refl _ w).alloc (Nat.le_refl _) _)
  have HI0 := Lib.hid (show ApS w w.heap.size W0.heap.size [] (.slice none 0 0) W0 from ⟨by rw [hW0]; exact cb_new w _ _, World.ownsRow_nil _ _ _ _, HB0.out, Nat.le_refl _⟩)
  obtain ⟨bl, hbl⟩ : ∃ bl, w.heap.size = bl := ⟨_, rfl⟩
  have HBL := Lib.hid hbl
  rw [hbl] at HI0 HZ0 HSS ⊢
  clear hW0 hsz0 hbl
  go_wp2_with fail
  refine (wpIn_wide (n := 9)).1 ?_
  refine wpIn_rangeFunc_ownH (α := NCk) (encs := fun x => #[cvs x.c]) (Kp := KpN W0.heap.size (fun k => k = bl)) (S := fun ys => flatN ys = ptc (R.el Wc) (i : Nat) (j : Nat)) (Sp := fun _ => True) (N := (R.el Wc).length) (w0 := W0) rfl (by decide)
    (gf := 42) (lb := #[.pointer (some ⟨b1, 0, none⟩), .pointer (some ⟨b2, 0, none⟩), .pointer (some ⟨b3, 0, none⟩)]) rfl trivial (enters_of Try.func42 (by kernel_rfl) rfl) ?seq (fun h k => h.trans k) ?kb (Below.refl _ _) (fun _ => rfl)
    (fun pre W => ∃ v, ApS w bl W0.heap.size pre v W)
    (fun c _ W => False)
    (fun pre A B' row ⟨v, h⟩ hg hr => ⟨v, h.grown hg hr (by have := HZ0.out; omega) (by have := HZ0.out; have := h.hi; omega)⟩)
    (fun c pre A B' row h hg hr => h.elim)
    ⟨_, HI0.out⟩
    (fun x a' W => ∃ Bx, W0.heap.size ≤ Bx ∧ Cb Bx 44 (crow x.c) W ∧ a' = { tmps := #[.slice none 0 0, .func (.func 42) #[] #[.pointer (some ⟨b1, 0, none⟩), .pointer (some ⟨b2, 0, none⟩), .pointer (some ⟨b3, 0, none⟩)], .pointer (some ⟨bl, 0, none⟩), undef, .slice none 0 0, .pointer (some ⟨Bx, 0, none⟩), .func (.func 42) #[] #[.pointer (some ⟨b1, 0, none⟩), .pointer (some ⟨b2, 0, none⟩), .pointer (some ⟨b3, 0, none⟩)], cvs x.c, undef, undef, undef, undef, undef], defers := [] })
    (fun x a' _ X Y row hs hg hr => by obtain ⟨Bx, h1, h2, h3⟩ := hs; exact ⟨Bx, h1, cb_grown h2 hg (fun r e => (hr r e).2), h3⟩)
    ?assign ?body ?done ?stop
  case seq =>
    intro ln J Jx W hW hJ hJx hY h0
    have HOW := HOV.out
    have hww := below_add HB0.out hW HB0.out.size
    refine callsIn_wide.2 ((over1_any (tb := tb) (Q := Q) (n0 := W0.heap.size) (N := (R.el Wc).length) (X := fun k => k = bl) (S := S) (J := J) (Jx := Jx) 7 (fun k hk => by have := HZ0.out; omega) (fun k hk => by have := HSS.out k hk; have := HZ0.out; exact ⟨by omega, by omega⟩) (fun pre A A' hA hb => hJ pre A A' none hA ⟨hb.os, hb.tape, hb.output, hb.size, fun k hk _ => hb.block k hk⟩ (fun r e => by cases e)) hY R b1 b2 b3 i j HIJ.out.1 HIJ.out.2.1 HIJ.out.2.2 (Nat.le_refl _) W ?_ hW.size h0).mono ?_)
    · have := HOW.below hww
      exact ⟨this.c1, this.c2, this.c3, this.t, Below.refl _ _⟩
    · rintro e W' ⟨h1, ⟨q, h2, h3⟩ | ⟨q, h2⟩⟩
      · exact ⟨h1, .inl ⟨q, h2, h3⟩⟩
      · exact ⟨h1, .inr ⟨q, trivial, h2⟩⟩
  case kb =>
    intro W k o o' hk ho h1 h2
    have hG := grownBy_putObj' W k o'
    refine ⟨hG.os, hG.tape, hG.output, hG.size, fun k' o2 hk' hx hc => ?_⟩
    refine (hG.block k' (lt_of_heap hk') (fun e => ?_)).trans hk'
    injection e with e
    subst e
    rw [ho] at hk'
    cases hk'
    rcases hc with hc | ⟨cs, t, f, rfl, ht⟩
    · omega
    · cases h1
  case assign =>
    rintro ln pre x W K ⟨v, hI⟩ hK
    have hxl := xc_size x.c
    have V4 := Lib.hid (cb_new W 44 czr)
    refine regionIn_of_plain (fun _ _ h => h) rfl ?_
    go_wp2_with (refine wpList_store_row rfl 44 (.tmp 5) (.tmp 7) rfl W.heap.size (crow x.c) rfl rfl _ _ V4.out (xinfo hxl) (by rw [hxl]; exact xz_size) (crow_one _) ?_)
    have hb : Below W.heap.size W ((W.alloc (.cells czr 44)).setRow W.heap.size (crow x.c)) := below_row ((Below.refl _ W).alloc (Nat.le_refl _) _) (Nat.le_refl _)
    exact hK _ _ ((keeps_off (S := fun _ => False) (Off.of_below hb) (fun k h => h.elim)).from _) (KpN.of_below hb) ⟨v, hI.below hb (by have := HZ0.out; have := hI.hi; omega)⟩ ⟨W.heap.size, hI.hi, V4.out.set _, rfl⟩
  case body =>
    rintro ln pre x a' W hln ⟨r, hr⟩ ⟨v, hI⟩ ⟨Bx, hBx, hcx, rfl⟩ hlt
    obtain ⟨va, vc, rfl, -, -⟩ := own_shape hI.own
    have hpl : (flatN pre).length ≤ 400000 := by rw [flatN_len]; have := HNN.out; omega
    have hbn : bl < W0.heap.size := by have := HZ0.out; omega
    have FIN := Lib.hid (fun (w5 : World) (hb : Below W.heap.size W w5) (g6 cap6 : Nat) (w6 : World) => aps_next (w6 := w6) hI x hbn hb g6 cap6)
    obtain ⟨cx, hcx2⟩ : ∃ cx, crow x.c = cx := ⟨_, rfl⟩
    have SX := Lib.hid (show cx.size = 2 by rw [← hcx2]; rfl)
    have HBS := Lib.hid (built_one 44 ie hie K_X.z hz 2 hs (by decide) (by decide) (crow x.c).toList rfl)
    rw [show (crow x.c).toList.toArray = crow x.c from rfl] at HBS
    have hones : ∀ v ∈ (crow x.c).toList, v.oneCell' = true := fun v hv => Array.all_eq_true_iff_forall_mem.1 (crow_one x.c) v (by simpa using hv)
    have hrl : (crow x.c).toList.length = 1 * 2 := rfl
    rw [hcx2] at HBS FIN hcx hones hrl
    have V5 := Lib.hid hcx
    have c0 : W.cell? ⟨bl, 0, none⟩ = some (.slice va (flatN pre).length vc) := hI.c.cell 0
    have S6 := Lib.hid (show (W.alloc (.cells cx 44)).ownsRow W0.heap.size 44 2 (.slice va (flatN pre).length vc) (flatN pre).length (Go.Proofs.Ytoppgdhidnpibaa.fl CkC (flatN pre)) from owns_kept hI.own (fun g hg => heap_alloc_old W _ (own_lt7 hI.own hg)))
    have HNB := Lib.hid (heap_alloc_new W (.cells cx 44))
    have hzs : K_X.z.cells.size = 2 := rfl
    have hbs : W0.heap.size ≤ (W.alloc (.cells cx 44)).heap.size := by rw [World.size_alloc]; have := hI.hi; omega
    have hmx : (flatN pre).length + 1 ≤ maxLen := by unfold maxLen; omega
    have hmy : ((flatN pre).length + 1) * 16 ≤ 140737488355328 := by omega
    have CL := Lib.hid (hI.c.alloc (.cells cx 44))
    have hob : ∀ g, (Value.slice va (flatN pre).length vc).ownBlock = some g → W0.heap.size ≤ g := fun g hg => own_base hI.own hg
    have HBW := Lib.hid (below_alloc1 W (.cells cx 44))
    clear hI hcx hlt
    refine wpIn_block ?_
    refine regionIn_of_plain (fun _ _ h => h) rfl ?_
    rw [show cvs x.c = .agg cx by unfold cvs; rw [hcx2]]
    go_wp2_with (first
      | (refine wpList_load_roww 44 (.tmp 5) rfl Bx rfl (by rfl) _ _ _ _ V5.out Try.underlying44 rfl (xinfo SX.out) ?_)
      | (refine wpList_buildSliceL rfl 22 44 1 _ rfl W.heap.size rfl _ rfl Try.underlying22 [(0, .agg cx)] rfl cx HBS.out ?_)
      | (at_builtin; refine wpList_append_lies _ rfl (.tmp 8) (.tmp 10) 22 rfl W0.heap.size 44 ie K_X.z 2 16 Try.underlying22 hie hz hs hby hzs (by decide) (.slice va (flatN pre).length vc) (flatN pre).length (Go.Proofs.Ytoppgdhidnpibaa.fl CkC (flatN pre)) rfl S6.out ⟨W.heap.size, 0, none⟩ 1 1 cx.toList rfl hrl (World.news_of_block HNB.out) hones (by decide) hmx hmy hbs _ rfl ?_; intro g6 cap6 w6 ho6 hg6 ha6 hl6; have C6 := (hg6.block bl CL.out.lt (fun e => by have := hob _ e.symm; omega)).trans CL.out; have c6 : w6.cell? ⟨bl, 0, none⟩ = some (.slice va (flatN pre).length vc) := Cb.cell C6 0; have f6 := Cb.frozen C6 0; have HO6 := Lib.hid ho6; have HG6 := Lib.hid hg6; have HL6 := Lib.hid hl6; have HC6 := Lib.hid C6; clear ho6 hg6 ha6 hl6 C6))
    exact FIN.out _ HBW.out _ _ _ HO6.out HG6.out HL6.out HC6.out
  case done =>
    rintro D ys W hD hS ⟨v, hI⟩ hDW
    obtain ⟨va, vc, rfl, -, -⟩ := own_shape hI.own
    have c0 := hI.c.cell 0
    have hG := grownBy_putObj' W D (.deferred none)
    have go := own_grown hI.own hG (fun r e => by cases e; exact ⟨_, hDW, rfl⟩)
    have gb := hI.bel.grown hG (by have := HZ0.out; have := hI.hi; omega) (fun k e => by cases e; have := HZ0.out; omega)
    have hrow := HZ0.out
    rw [hrow] at go
    rw [hS] at go
    gi_wp2
    go_wp2
    refine ⟨by simp, .inl ⟨_, _, rfl, run_takeDeferred hDW, ?_⟩⟩
    refine ⟨.slice va (ptc (R.el Wc) (i : Nat) (j : Nat)).length vc, ?_, _, rfl, by rw [HBL.out]; exact go, ?_⟩
    · simp [results, Try.f41, go_sem]
    · rw [← HBL.out] at gb; exact gb
  case stop =>
    rintro D c pre W hD _ h hDW
    exact h.elim
theorem collect_any {S : Nat → Prop} {tb Q : Nat} (R : TC) (b1 b2 b3 i j : Nat) (w : World) (h : OvC S tb R Q b1 b2 b3 i j w w) (hS : ∀ k, S k → k < w.heap.size) (hij : i ≤ j) (hj : j ≤ Wc.ln (R.el Wc)) (hQ : Wc.ln (R.el Wc) ≤ 4000000000) (hN : (R.el Wc).length ≤ 400000) :
    Calls Try.prog 25 #[.func (.func 42) #[] #[.pointer (some ⟨b1, 0, none⟩), .pointer (some ⟨b2, 0, none⟩), .pointer (some ⟨b3, 0, none⟩)]] w fun e w' => ∃ v, e = .returned v ∧ w'.ownsRow (w.heap.size + 1) 44 2 v (ptc (R.el Wc) (i : Nat) (j : Nat)).length (Go.Proofs.Ytoppgdhidnpibaa.fl CkC (ptc (R.el Wc) (i : Nat) (j : Nat))) ∧ Below w.heap.size w w' := by
  have HA := Lib.hid (appendseq_any R b1 b2 b3 i j w h hS hij hj hQ hN)
  clear h hS hij hj hQ hN
  go_enter Try.func25, Try.ntmps25
  go_wp2_with (go_at_call 41; refine HA.out.mono ?_; rintro e w1 ⟨v, rfl, ho, bb⟩; have HO := Lib.hid ho; have BB := Lib.hid bb; clear ho bb)
  go_ret
  exact ⟨v, rfl, HO.out, BB.out⟩
section
variable {S : Nat → Prop} {tb rb : Nat} {l : List Int} {w w' W : World}
/-- No such places. -/
theorem sp_over_no (h : Rp S rb l w) (i j : Int) (hr : rcB l.length i j = false) :
    Calls Try.prog 10 #[.pointer (some ⟨rb, 0, none⟩), .int .i64 i, .int .i64 j] w fun e w' => e = .returned (.tuple #[.slice none 0 0, .int .i64 5]) ∧ Below w.heap.size w w' := by
  have HR := Lib.hid (sp_reach h i j)
  rw [hr] at HR
  clear h hr
  go_enter Try.func10, Try.ntmps10
  go_wp2_with (go_at_call 24; refine HR.out.mono ?_; rintro e w1 ⟨rfl, bb⟩; have BB := Lib.hid bb; clear bb)
  go_ret2
  exact ⟨rfl, BB.out⟩
theorem sp_over (h : Rp S rb l w) (hQ : wq l ≤ 4000000000) (i j : Nat) (hij : i ≤ j) (hj : j ≤ l.length) :
    Calls Try.prog 10 #[.pointer (some ⟨rb, 0, none⟩), .int .i64 (i : Nat), .int .i64 (j : Nat)] w fun e w' => ∃ v B, e = .returned (.tuple #[v, .int .i64 0]) ∧ w.heap.size ≤ B ∧ w'.ownsRow B 44 2 v (rl (part l (i : Nat) (j : Nat))).length (Go.Proofs.Ytoppgdhidnpibaa.fl CkC (rl (part l (i : Nat) (j : Nat)))) ∧ Below w.heap.size w w' := by
  have HR := Lib.hid (sp_reach h (i : Nat) (j : Nat))
  rw [(rcB_iff _ _ _).2 ⟨by omega, by omega, by omega⟩] at HR
  have HRD := Lib.hid (fun (w' : World) (hb : Below w.heap.size w w') => sp_read (h.below hb))
  have HIJ := Lib.hid (And.intro hij (And.intro hj hQ))
  clear h hij hj hQ
  go_enter Try.func10, Try.ntmps10
  go_wp2_with (first
    | (go_at_call 24; refine HR.out.mono ?_; rintro e w1 ⟨rfl, bb⟩; have B1 := Lib.hid bb; clear bb)
    | (go_at_call 22; refine (HRD.out _ B1.out).mono ?_; clear HRD; rintro e w2 ⟨tb, S', rfl, ⟨R, q1, q2, q3⟩, bb⟩; have T2 := Lib.hid (And.intro q1 (And.intro q2 q3)); have B2 := Lib.hid (below_add B1.out bb B1.out.size); clear q1 q2 q3 bb)
    | (go_at_call 26; refine (over_any tb i j _).mono ?_; rintro e w3 ⟨b1, b2, b3, rfl, p1, p2, p3, g1, g2, g3, bb⟩; have P3 := Lib.hid (show OvC S' tb R (wq l) b1 b2 b3 i j w3 w3 from ⟨p1.cell 0, p2.cell 0, p3.cell 0, T2.out.1.below bb, Below.refl _ _⟩); have S3 := Lib.hid (fun k hk => Nat.lt_of_lt_of_le (T2.out.2.2 k hk) bb.size); have B3 := Lib.hid (below_add B2.out bb B2.out.size); clear p1 p2 p3 g1 g2 g3 bb)
    | (go_at_call 25; refine (collect_any R b1 b2 b3 i j _ P3.out S3.out HIJ.out.1 (by rw [T2.out.2.1, show Wc.ln (rl l) = l.length from lnS_rl l]; exact HIJ.out.2.1) (by rw [T2.out.2.1, show Wc.ln (rl l) = l.length from lnS_rl l]; have := HIJ.out.2.2; unfold wq at this; omega) (by rw [T2.out.2.1]; have := HIJ.out.2.2; unfold wq cntR at this; omega)).mono ?_; rintro e w4 ⟨v, rfl, ho, bb⟩; have HO := Lib.hid ho; have B4 := Lib.hid (below_add B3.out bb B3.out.size); clear ho bb))
  go_ret2
  refine ⟨v, w3.heap.size + 1, rfl, by have := B3.out.size; omega, ?_, B4.out⟩
  have := HO.out
  rw [T2.out.2.1, ptc_rl] at this
  exact this
end
end Go.Proofs.Ytoppgdhidnpibaa
