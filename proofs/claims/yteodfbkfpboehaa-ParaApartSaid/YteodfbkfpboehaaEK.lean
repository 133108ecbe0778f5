
import Derived.Test.YteodfbkfpboehaaEJ
/- EK: records patched -/
namespace Go.Proofs.Yteodfbkfpboehaa
open Go.RowKit Go.Shelf
set_option linter.unusedVariables false
set_option maxRecDepth 100000
attribute [local go_sem] Oper.semAt_some

theorem Sq.blk {D : Sv → Prop} {Q : Nat} {S : Nat → Prop} {tb : Nat} {root : Int} {F : List TC} {w : World} (h : Sq D Q S tb root F w) {d : Sv} (hd : D d) : Arow w d.v d.s ∧ d.s.length ≤ 100000 ∧ ∀ k, d.v.ownBlock = some k → S k ∧ k < w.heap.size := by
  obtain ⟨⟨an, cn, U, V, A, C, h1, h2⟩, -⟩ := h
  obtain ⟨q1, q2, q3⟩ := h1.kD d hd
  exact ⟨q1, q2, fun k hk => ⟨(q3 k hk).1, (q3 k hk).2.2.2.2⟩⟩
/-- A run, as Patch turns it. -/
def pch {D : Sv → Prop} (X : List Chg) (x : NCk D 60000) : Nat × List Att := (x.c.n, app x.c.d.s X)
/-- What a range that gathers patched runs keeps between two rounds. -/
structure ApP {D : Sv → Prop} (W0 : World) (bl : Nat) (X : List Chg) (pre : List (NCk D 60000)) (v : Value) (zs : List Ck) (W : World) : Prop where
  c : Cb bl 70 #[v] W
  own : Zown W0.heap.size W v zs
  is : zs.map (fun z => (z.n, z.d.s)) = pre.map (pch X)
  off : Off (fun k => k = bl) W0 W
section
variable {D : Sv → Prop} {W0 W W' w5 w6 : World} {bl : Nat} {X : List Chg} {pre : List (NCk D 60000)} {v : Value} {zs : List Ck}
theorem ApP.len (h : ApP W0 bl X pre v zs W) : zs.length = pre.length := by have := congrArg List.length h.is; simpa using this
theorem ApP.grown {row : Option Nat} (h : ApP W0 bl X pre v zs W) (hg : W.grownBy W' row) (hr : ∀ r, row = some r → W0.heap.size ≤ r ∧ ∃ o : Obj, W.heap[r]? = some o ∧ o.isCells = false) : ApP W0 bl X pre v zs W' :=
  ⟨cb_grown h.c hg (fun r e => (hr r e).2), h.own.grown hg (fun r e => (hr r e).2), h.is, (h.off.trans (Off.of_grown hg (fun g e => .inr (hr g e).1)))⟩
theorem ApP.below (h : ApP W0 bl X pre v zs W) (hb : Below W.heap.size W W') : ApP W0 bl X pre v zs W' :=
  ⟨h.c.below hb, h.own.below hb, h.is, h.off.seq (Off.of_below hb)⟩
/-- The end of a round. -/
theorem ApP.next {va : Option Addr} {vc : Nat} (h : ApP W0 bl X pre (.slice va zs.length vc) zs W) (x : NCk D 60000) (hn : bl < W0.heap.size) (hb' : Below W.heap.size W w5) (ua : Option Addr) (uc : Nat)
    (y : List Att) (hy : app x.c.d.s X = y)
    (ho : Own5 W w5 (.slice ua y.length uc) y) (g6 cap6 : Nat)
    (ho6 : w6.ownsRow W0.heap.size 61 2 (.slice (some ⟨g6, 0, none⟩) (zs.length + 1) cap6) (zs.length + 1) (Go.Proofs.Yteodfbkfpboehaa.fl CkC zs ++ Ck.c ⟨x.c.n, ⟨ua, y.length, uc, y⟩⟩))
    (hg : (w5.alloc (.cells (Ck.c ⟨x.c.n, ⟨ua, y.length, uc, y⟩⟩).toArray 61)).grownBy w6 (Value.slice va zs.length vc).ownBlock) (hC : Cb bl 70 #[.slice va zs.length vc] w6) :
    KeepsFrom W0.heap.size W (w6.setCell ⟨bl, 0, none⟩ (.slice (some ⟨g6, 0, none⟩) (zs.length + 1) cap6)) ∧ KpN W0.heap.size (fun k => k = bl) W (w6.setCell ⟨bl, 0, none⟩ (.slice (some ⟨g6, 0, none⟩) (zs.length + 1) cap6)) ∧
      ∃ v zs2, ApP W0 bl X (pre ++ [x]) v zs2 (w6.setCell ⟨bl, 0, none⟩ (.slice (some ⟨g6, 0, none⟩) (zs.length + 1) cap6)) := by
  have hb2 := hb'.alloc hb'.size (.cells (Ck.c ⟨x.c.n, ⟨ua, y.length, uc, y⟩⟩).toArray 61)
  have hst := grown_set (w := w6) (g := bl) (o := 0) (.slice (some ⟨g6, 0, none⟩) (zs.length + 1) cap6)
  have O7 : Off (fun k => k = bl ∨ (Value.slice va zs.length vc).ownBlock = some k) W (w6.setCell ⟨bl, 0, none⟩ (.slice (some ⟨g6, 0, none⟩) (zs.length + 1) cap6)) :=
    ((Off.of_below hb2).seq (Off.of_grown hg (fun g hg => .inr hg))).seq (Off.of_grown hst (fun g hg => by cases hg; exact .inl rfl))
  have hhi := h.off.size
  have hob : ∀ g, (Value.slice va zs.length vc).ownBlock = some g → W0.heap.size ≤ g ∧ ∃ cs t f, W.heap[g]? = some (.cells cs t f) ∧ t ≠ 102 := fun g hg => by
    obtain ⟨cur, hc⟩ := own_tag h.own.row hg
    exact ⟨own_base h.own.row hg, _, _, _, hc, by decide⟩
  have hz := Zown.more (h.own.below hb2) hg ⟨x.c.n, ⟨ua, y.length, uc, y⟩⟩ (owns_mono (owns_below ho (below_alloc1 w5 _)) h.off.size) ho6
  have hcc : Cb bl 70 #[.slice (some ⟨g6, 0, none⟩) (zs.length + 1) cap6] (w6.setCell ⟨bl, 0, none⟩ (.slice (some ⟨g6, 0, none⟩) (zs.length + 1) cap6)) := by
    show (w6.setCell _ _).heap[bl]? = _
    rw [heap_set _ hC]; rfl
  have k1 := (keeps_off O7 (fun k hk _ => by
    rcases hk with rfl | hk
    · exact ⟨_, _, _, h.c⟩
    · obtain ⟨cur, hc⟩ := own_tag h.own.row hk
      exact ⟨_, _, _, hc⟩)).from W0.heap.size
  have k2 := kpn_off (n0 := W0.heap.size) (bl := bl) (row := (Value.slice va zs.length vc).ownBlock) O7 hob
  have k3 := owns_kept hz.row (w' := w6.setCell ⟨bl, 0, none⟩ (.slice (some ⟨g6, 0, none⟩) (zs.length + 1) cap6)) (fun g hgo => hst.block g (own_lt7 hz.row hgo) (fun e => by
      cases e
      have := own_base hz.row hgo
      omega))
  refine ⟨k1, k2, .slice (some ⟨g6, 0, none⟩) (zs.length + 1) cap6, zs ++ [⟨x.c.n, ⟨ua, y.length, uc, y⟩⟩], ⟨hcc, ⟨k3, fun z hz' => ?_⟩, ?_, ?_⟩⟩
  · exact owns_kept (hz.sets z hz') (fun g hgo => hst.block g (own_lt7 (hz.sets z hz') hgo) (fun e => by
      cases e
      have := own_base (hz.sets z hz') hgo
      omega))
  · rw [List.map_append, List.map_append, h.is, List.map_singleton, List.map_singleton]
    unfold pch
    rw [hy]
  · exact h.off.trans (O7.mono (fun k hk => by
      rcases hk with hk | hk
      · exact .inl hk
      · exact .inr (hob k hk).1))
end
theorem flat_is {D : Sv → Prop} (X : List Chg) : ∀ (zs : List Ck) (pre : List (NCk D 60000)), zs.map (fun z => (z.n, z.d.s)) = pre.map (pch X) → flat zs = (flat (flatN pre)).map (fun s => app s X)
  | [], [], _ => rfl
  | [], _ :: _, h => by cases h
  | _ :: _, [], h => by cases h
  | z :: zs, x :: pre, h => by
    rw [List.map_cons, List.map_cons] at h
    injection h with h1 h2
    have ih := flat_is X zs pre h2
    unfold pch at h1
    injection h1 with e1 e2
    rw [show flatN (x :: pre) = x.c :: flatN pre from rfl, flat_cons, flat_cons, List.map_append, ih, List.map_replicate, e1, e2]
theorem pos_is {D : Sv → Prop} (X : List Chg) {zs : List Ck} {pre : List (NCk D 60000)} (h : zs.map (fun z => (z.n, z.d.s)) = pre.map (pch X)) : ∀ z ∈ zs, 0 < z.n := fun z hz => by
  have : (z.n, z.d.s) ∈ pre.map (pch X) := by rw [← h]; exact List.mem_map.2 ⟨z, hz, rfl⟩
  obtain ⟨x, -, hx⟩ := List.mem_map.1 this
  unfold pch at hx
  injection hx with e1 e2
  rw [← e1]; exact x.ne
theorem Zown.off {S : Nat → Prop} {B : Nat} {w w' : World} {v : Value} {zs : List Ck} (h : Zown B w v zs) (ho : Off S w w') (hS : ∀ k, B ≤ k → k < w.heap.size → ¬ S k) : Zown B w' v zs :=
  ⟨owns_kept h.row (fun g hg => ho.block g (own_lt7 h.row hg) (hS g (own_base h.row hg) (own_lt7 h.row hg))),
   fun z hz => owns_kept (h.sets z hz) (fun g hg => ho.block g (own_lt7 (h.sets z hz) hg) (hS g (own_base (h.sets z hz) hg) (own_lt7 (h.sets z hz) hg)))⟩
/-- What Patch leaves. -/
def patL (l : List (List Att)) (i j : Int) (X : List Chg) : List (List Att) := if mrE l.length i j = 0 then l.take i.toNat ++ ((part l i j).map (fun s => app s X) ++ l.drop j.toNat) else l
section
variable {S : Nat → Prop} {tb rb : Nat} {l ls : List (List Att)} {w w' W : World}
set_option maxHeartbeats 4000000 in
theorem pa_patch0 (h : Rp S rb l w) (hlt : ∀ k, S k → k < w.heap.size) (hl : l.length ≤ 60000) (i j : Nat) (hij : i ≤ j) (hj : j ≤ l.length) (xv : Value) (X : List Chg) (hx : ∀ W, Off S w W → Crow W xv X) (hX : X.length ≤ 100000) (hs : ∀ s ∈ l, s.length + X.length ≤ 100000) :
    Calls Try.prog 13 #[.pointer (some ⟨rb, 0, none⟩), .int .i64 (i : Nat), .int .i64 (j : Nat), xv] w fun e w' => e = .returned (.int .i64 0) ∧ Rp (fun k => UpS S w k ∧ k < w'.heap.size) rb (l.take i ++ ((part l (i : Nat) (j : Nat)).map (fun s => app s X) ++ l.drop j)) w' ∧ Off S w w' := by
  obtain ⟨ie, hie, hz, hsz, hby⟩ := info_run
  obtain ⟨xa, xc, hxv⟩ := (hx w (Off.refl _ _)).shape
  subst hxv
  obtain ⟨xn, hxn⟩ : ∃ n, X.length = n := ⟨_, rfl⟩
  have HXN := Lib.hid hxn
  rw [hxn] at hx hX hs ⊢
  have HRE := Lib.hid (fun W (hb : Below w.heap.size w W) => pa_reach (h.below hb) (i : Nat) (j : Nat))
  rw [mrE_yes (by omega)] at HRE
  have HRD := Lib.hid (fun W (hb : Below w.heap.size w W) => pa_readS (h.below hb))
  have H0 := Lib.hid h
  have HLT := Lib.hid hlt
  have HIJ := Lib.hid (And.intro hij hj)
  have HLL := Lib.hid hl
  have HXX := Lib.hid (And.intro hx (And.intro hX hs))
  have hb0 := (Below.refl w.heap.size w).alloc (Nat.le_refl _) (.cells #[.slice xa xn xc] 23)
  have HB0 := Lib.hid hb0
  have CX0 := Lib.hid (cb_new w 23 #[.slice xa xn xc])
  clear h hlt hl hij hj hx hX hs hb0 hxn
  refine (callsIn_wide (n := 9)).1 ?_
  refine callsIn_of_wp_marks Try.func13 rfl trivial ?_ rfl
  simp only [Try.ntmps13, List.size_toArray, List.length_cons, List.length_nil, Nat.reduceAdd, Nat.reduceSub, Array.replicate_succ, Array.replicate_zero, List.push_toArray, List.append_toArray, List.nil_append, List.cons_append]
  refine wpIn_wide.2 ?_
  go_wp2_with (first
    | (go_at_call 27; refine (HRE.out _ HB0.out).mono ?_; rintro e w1 ⟨rfl, bb⟩; have B1 := Lib.hid (below_add HB0.out bb HB0.out.size); have B2 := Lib.hid (B1.out.alloc B1.out.size (.cells #[.slice none 0 0] 70)); have CX2 := Lib.hid ((CX0.out.below bb).alloc (.cells #[.slice none 0 0] 70)); have CL2 := Lib.hid (cb_new w1 70 #[.slice none 0 0]); have Z1 := Lib.hid (show w.heap.size < w1.heap.size by have := bb.size; rw [World.size_alloc] at this; omega); clear bb)
    | (go_at_call 24; refine (HRD.out _ B2.out).mono ?_; rintro e w2 ⟨tb, S', D, R, rfl, hr, ss, hs', bb⟩; have SS := Lib.hid ss; have HR := Lib.hid hr; have HS := Lib.hid hs'; have B3 := Lib.hid (below_add B2.out bb B2.out.size); have CX3 := Lib.hid (CX2.out.below bb); have CL3 := Lib.hid (CL2.out.below bb); clear ss bb hr hs')
    | (go_at_call 28; refine (over_any tb i j _).mono ?_; rintro e W0 ⟨b1, b2, b3, rfl, p1, p2, p3, g1, g2, g3, bb⟩; have OV := Lib.hid (show OvC D S' tb R (wq l) b1 b2 b3 i j W0 W0 from ⟨p1.cell 0, p2.cell 0, p3.cell 0, SS.out.below bb, Below.refl _ _⟩); have B4 := Lib.hid (below_add B3.out bb B3.out.size); have CX4 := Lib.hid (CX3.out.below bb); have CL4 := Lib.hid (CL3.out.below bb); have Z4 := Lib.hid bb.size; clear p1 p2 p3 g1 g2 g3 bb))
  obtain ⟨bl, hbl⟩ : ∃ bl, w1.heap.size = bl := ⟨_, rfl⟩
  obtain ⟨bx, hbx⟩ : ∃ bx, w.heap.size = bx := ⟨_, rfl⟩
  have HBX := Lib.hid hbx
  have hS' : ∀ k, S' k → k < W0.heap.size ∧ ¬ k = bl := fun k hk => by
    have h1 := HS.out k hk
    have h2 := Z4.out
    refine ⟨by omega, fun e => ?_⟩
    rcases h1.1 with h3 | h3
    · have := HLT.out k h3; have := Z1.out; omega
    · rw [World.size_alloc] at h3; omega
  have HSS := Lib.hid hS'
  rw [hbx] at CX4 Z1
  rw [hbl] at CL4 Z1
  have hbl4 := CL4.out.lt
  have HLN := Lib.hid (show bx < bl ∧ bl < W0.heap.size from ⟨Z1.out, hbl4⟩)
  have hlR : Wc.ln (R.el Wc) = l.length := by rw [← HR.out.1, flat_len]; rfl
  have HRL := Lib.hid (show j ≤ Wc.ln (R.el Wc) ∧ Wc.ln (R.el Wc) ≤ 4000000000 ∧ (R.el Wc).length ≤ 100000 ∧ Wc.ln (R.el Wc) ≤ 60000 from ⟨by rw [hlR]; exact HIJ.out.2, by rw [hlR]; have := HLL.out; omega, Nat.le_trans (len_flat HR.out.2) (by rw [HR.out.1]; have := HLL.out; omega), by rw [hlR]; exact HLL.out⟩)
  have HI0 := Lib.hid (show ApP (D := D) W0 bl X [] (.slice none 0 0) [] W0 from ⟨CL4.out, Zown.nil _ _, rfl, Off.refl _ _⟩)
  have HCX := Lib.hid (fun W (ho : Off (fun k => k = bl) W0 W) => CX4.out.off ho (by have := HLN.out.1; omega))
  have HCR := Lib.hid (fun W (ho : Off (fun k => k = bl) W0 W) => HXX.out.1 W (Off.below_l B4.out ((ho.trans (Off.refl _ _)).mono (S' := fun k => S k ∨ w.heap.size ≤ k) (fun k hk => by subst hk; have := HLN.out.1; exact .inr (by rw [HBX.out]; omega))) |>.cut))
  refine Hid.out ?_
  rw [hbx, hbl]
  refine Lib.hid ?_
  clear hbl hbx hS' hbl4 hlR CX0 CX2 CX3 CL2 CL3 B1 B2 B3 SS HRE HRD HB0
  refine (wpIn_wide (n := 9)).1 ?_
  refine act_gen fun T hT => ?_
  refine wpIn_rangeFunc_ownH (α := NCk D 60000) (encs := fun x => #[cvs x.c]) (Kp := KpN W0.heap.size (fun k => k = bl)) (S := fun ys => flatN ys = ptc (R.el Wc) (i : Nat) (j : Nat)) (Sp := fun _ => True) (N := (R.el Wc).length) (w0 := W0) rfl (by decide)
    (gf := 40) (lb := #[.pointer (some ⟨b1, 0, none⟩), .pointer (some ⟨b2, 0, none⟩), .pointer (some ⟨b3, 0, none⟩)]) (by rw [← hT]; rfl) trivial (enters_of Try.func40 (by kernel_rfl) rfl) ?seq (fun h k => h.trans k) ?kb (Below.refl _ _) (fun _ => rfl)
    (fun pre W => ∃ v zs, ApP W0 bl X pre v zs W)
    (fun c _ W => False)
    (fun pre A B' row ⟨v, zs, h⟩ hg hr => ⟨v, zs, h.grown hg hr⟩)
    (fun c pre A B' row h hg hr => h.elim)
    ⟨_, _, HI0.out⟩
    (fun x a' W => ∃ Bx, W0.heap.size ≤ Bx ∧ Cb Bx 61 (krow x.c) W ∧ (∃ v : Value, Cb bl 70 #[v] W ∧ ¬ v.ownBlock = some Bx) ∧ a' = { tmps := (T.tmps.setIfInBounds 24 (cvs x.c)).setIfInBounds 11 (.pointer (some ⟨Bx, 0, none⟩)), defers := [] })
    (fun x a' _ X Y row hs hg hr => by obtain ⟨Bx, h1, h2, ⟨v9, h4, h5⟩, h3⟩ := hs; exact ⟨Bx, h1, cb_grown h2 hg (fun r e => (hr r e).2), ⟨v9, cb_grown h4 hg (fun r e => (hr r e).2), h5⟩, h3⟩)
    ?assign ?body ?done ?stop
  case seq =>
    intro ln J Jx W hW hJ hJx hY h0
    have HOW := OV.out
    refine callsIn_wide.2 ((over1_any (tb := tb) (Q := wq l) (n0 := W0.heap.size) (N := (R.el Wc).length) (X := fun k => k = bl) (S := S') (J := J) (Jx := Jx) 7 (fun k hk => by have := HLN.out.2; omega) (fun k hk => HSS.out k hk) (fun pre A A' hA hb => hJ pre A A' none hA ⟨hb.os, hb.tape, hb.output, hb.size, fun k hk _ => hb.block k hk⟩ (fun r e => by cases e)) hY R b1 b2 b3 i j HIJ.out.1 HRL.out.1 HRL.out.2.1 HRL.out.2.2.2 (Nat.le_refl _) W ?_ hW.size h0).mono ?_)
    · have := HOW.below hW
      exact ⟨this.c1, this.c2, this.c3, this.t, Below.refl _ _⟩
    · rintro e W' ⟨h1, ⟨q, h2, h3⟩ | ⟨q, h2⟩⟩
      · exact ⟨h1, .inl ⟨q, h2, h3⟩⟩
      · exact ⟨h1, .inr ⟨q, trivial, h2⟩⟩
  case kb =>
    intro W k o o' hk ho h1 h2
    exact kpn_putObj W hk ho h1
  case assign =>
    rintro ln pre x W K ⟨v, zs, hI⟩ hK
    subst hT
    have hxl := xc_size x.c
    have V4 := Lib.hid (cb_new W 61 czr)
    refine regionIn_of_plain (fun _ _ h => h) rfl ?_
    go_wp2_with (refine wpList_store_row rfl 61 (.tmp 11) (.tmp 24) rfl W.heap.size (krow x.c) rfl rfl _ _ V4.out (xinfo hxl) (by rw [hxl]; exact xz_size) (krow_one _) ?_)
    have hb : Below W.heap.size W ((W.alloc (.cells czr 61)).setRow W.heap.size (krow x.c)) := below_row ((Below.refl _ W).alloc (Nat.le_refl _) _) (Nat.le_refl _)
    exact hK _ _ ((keeps_off (S := fun _ => False) (Off.of_below hb) (fun k h => h.elim)).from _) (KpN.of_below hb) ⟨v, zs, hI.below hb⟩ ⟨W.heap.size, hI.off.size, V4.out.set _, ⟨v, (hI.below hb).c, fun e => absurd (own_lt7 hI.own.row e) (Nat.lt_irrefl _)⟩, rfl⟩
  case body =>
    rintro ln pre x a' W hln ⟨r, hr⟩ ⟨v, zs, hI⟩ ⟨Bx, hBx, hcx, ⟨v9, hc9, hn9⟩, rfl⟩ hlt
    subst hT
    have hv9 : v9 = v := by
      have h9 : w.heap = w.heap := rfl
      have e1 : W.heap[bl]? = _ := hc9
      rw [show W.heap[bl]? = _ from hI.c] at e1
      injection e1 with e1
      injection e1 with e1 _ _
      simpa using e1.symm
    subst hv9
    obtain ⟨va, vc, rfl, -, -⟩ := own_shape hI.own.row
    have hzl := hI.len
    have hpl : zs.length ≤ 100000 := by have := HRL.out.2.2.1; omega
    have hblk := OV.out.t.blk x.d
    have HLO := Lib.hid hI.off.size
    have hax : Arow W x.c.d.v x.c.d.s := hblk.1.keep (fun k hk => hI.off.block k (hblk.2.2 k hk).2 (HSS.out k (hblk.2.2 k hk).1).2)
    have HAP := Lib.hid (fun W1 (hb : Below W.heap.size W W1) => apply_any x.c.d.v (.slice xa xn xc) x.c.d.s X W1 (hax.below hb (Nat.le_refl _)) ((HCR.out W hI.off).below hb (Nat.le_refl _)) (by have := hblk.2.1; have := HXX.out.2.1; have := HXN.out; omega))
    have HNX := Lib.hid (show ¬ (Value.slice va zs.length vc).ownBlock = some Bx ∧ ¬ (Value.slice va zs.length vc).ownBlock = some bx ∧ ¬ (Value.slice va zs.length vc).ownBlock = some bl ∧ ¬ Bx = bl ∧ ¬ bx = bl from by
      have a1 := HLN.out
      have a2 : ∀ g, (Value.slice va zs.length vc).ownBlock = some g → W0.heap.size ≤ g := fun g hg => own_base hI.own.row hg
      refine ⟨fun e => ?_, fun e => ?_, fun e => ?_, by omega, by omega⟩
      · exact hn9 e
      · have := a2 _ e; omega
      · have := a2 _ e; omega)
    have hbd := (Below.refl W.heap.size W).drew
    have K_0 := Lib.hid (show Cb Bx 61 (krow x.c) W.drew ∧ Cb bx 23 #[.slice xa xn xc] W.drew from ⟨hcx.below hbd, (HCX.out W hI.off).below hbd⟩)
    have CL_0 := Lib.hid (hI.c.below hbd)
    have BB_0 := Lib.hid hbd
    have HZO := Lib.hid hI.own
    have FIN := Lib.hid (fun (w5 : World) (hb : Below W.heap.size W w5) (ua : Option Addr) (uc : Nat) (ho : Own5 W w5 (.slice ua (app x.c.d.s X).length uc) (app x.c.d.s X)) (g6 cap6 : Nat) (w6 : World) => hI.next (w6 := w6) x HLN.out.2 hb ua uc _ rfl ho g6 cap6)
    clear hI hcx hbd hblk hax hlt hc9 hn9
    refine wpIn_block ?_
    try simp only [List.setIfInBounds_toArray, List.set_cons_succ, List.set_cons_zero]
    refine drawnIn_of_plain (fun W1 => Cb Bx 61 (krow x.c) W1 ∧ Cb bx 23 #[.slice xa xn xc] W1) (fun _ _ h => h) rfl (by kernel_rfl) ?_
    refine h_val (i := 1) (v := .pointer (some ⟨Bx, 0, none⟩)) rfl (by kernel_rfl) (by kernel_rfl) (by kernel_rfl) (fun _ _ _ h => h) (by rfl) (fun wz hS => ?_) K_0.out ?_
    · skip
      go_simp
    go_frame
    refine h_val (i := 2) (v := .int .i64 (x.c.n : Nat)) rfl (by kernel_rfl) (by kernel_rfl) (by kernel_rfl) (fun _ _ _ h => h) (by rfl) (fun wz hS => ?_) K_0.out ?_
    · skip
      have q0 : wz.cell? ⟨Bx, 0, none⟩ = some (.int .i64 (x.c.n : Nat)) := hS.1.cell 0
      go_simp
    go_frame
    refine h_val (i := 3) (v := .pointer (some ⟨Bx, 1, none⟩)) rfl (by kernel_rfl) (by kernel_rfl) (by kernel_rfl) (fun _ _ _ h => h) (by rfl) (fun wz hS => ?_) K_0.out ?_
    · skip
      go_simp
    go_frame
    refine h_val (i := 4) (v := x.c.d.v) rfl (by kernel_rfl) (by kernel_rfl) (by kernel_rfl) (fun _ _ _ h => h) (by rfl) (fun wz hS => ?_) K_0.out ?_
    · skip
      have q1 : wz.cell? ⟨Bx, 1, none⟩ = some x.c.d.v := hS.1.cell 1
      go_simp
    go_frame
    refine h_val (i := 5) (v := (.slice xa xn xc)) rfl (by kernel_rfl) (by kernel_rfl) (by kernel_rfl) (fun _ _ _ h => h) (by rfl) (fun wz hS => ?_) K_0.out ?_
    · skip
      have q2 : wz.cell? ⟨bx, 0, none⟩ = some (.slice xa xn xc) := hS.2.cell 0
      go_simp
    go_frame
    refine h_all2 (i := 0) (j := 6) (by kernel_rfl) ?_ ?_
    · skip
      refine o_step rfl (by rfl) ?_
      have c1 : _ = some ((.slice va zs.length vc) : Value) := CL_0.out.cell 0
      refine wp_val (v := (.slice va zs.length vc)) (by go_simp) ?_
      clear c1
      refine ⟨K_0.out, ?_⟩
      go_frame
      refine h_all1 (i := 6) (by kernel_rfl) ?_
      refine o_call (f := 32) (args := #[x.c.d.v, (.slice xa xn xc)]) rfl (by rfl) (by go_simp) ?_
      refine (HAP.out _ BB_0.out).mono ?_
      rintro e w5 ⟨u, rfl, ho, b5⟩
      obtain ⟨ua, uc, rfl, -, -⟩ := own_shape ho
      have HO := Lib.hid (show Own5 W w5 (.slice ua (app x.c.d.s X).length uc) (app x.c.d.s X) from owns_mono ho BB_0.out.size)
      have K_2 := Lib.hid (And.intro (K_0.out.1.below b5) (K_0.out.2.below b5))
      have CL_2 := Lib.hid (CL_0.out.below b5)
      have BB_2 := Lib.hid (below_add BB_0.out b5 BB_0.out.size)
      clear ho b5
      refine ⟨_, rfl, K_2.out, ?_⟩
      go_frame
      refine h_val (i := 7) (v := .agg (Ck.c ⟨x.c.n, ⟨ua, (app x.c.d.s X).length, uc, app x.c.d.s X⟩⟩).toArray) rfl (by kernel_rfl) (by kernel_rfl) (by kernel_rfl) (fun _ _ _ h => h) (by rfl) (fun wz hS => ?_) K_2.out ?_
      · skip
        go_simp
      go_frame
      refine h_all1 (i := 8) (by kernel_rfl) ?_
      refine o_step rfl (by rfl) ?_
      refine wp_buildSliceL 70 61 1 _ rfl w5.heap.size rfl Try.underlying70 [(0, .agg (Ck.c ⟨x.c.n, ⟨ua, (app x.c.d.s X).length, uc, app x.c.d.s X⟩⟩).toArray)] rfl _ (built_one 61 ie hie K_X.z hz 2 hsz (by decide) (by decide) (Ck.c ⟨x.c.n, ⟨ua, (app x.c.d.s X).length, uc, app x.c.d.s X⟩⟩) rfl) ?_
      have K_3 := Lib.hid (And.intro (K_2.out.1.alloc (.cells (Ck.c ⟨x.c.n, ⟨ua, (app x.c.d.s X).length, uc, app x.c.d.s X⟩⟩).toArray 61)) (K_2.out.2.alloc (.cells (Ck.c ⟨x.c.n, ⟨ua, (app x.c.d.s X).length, uc, app x.c.d.s X⟩⟩).toArray 61)))
      have CL_3 := Lib.hid (CL_2.out.alloc (.cells (Ck.c ⟨x.c.n, ⟨ua, (app x.c.d.s X).length, uc, app x.c.d.s X⟩⟩).toArray 61))
      have HNB := Lib.hid (heap_alloc_new w5 (.cells (Ck.c ⟨x.c.n, ⟨ua, (app x.c.d.s X).length, uc, app x.c.d.s X⟩⟩).toArray 61))
      have HAB := Lib.hid (BB_2.out.alloc BB_2.out.size (.cells (Ck.c ⟨x.c.n, ⟨ua, (app x.c.d.s X).length, uc, app x.c.d.s X⟩⟩).toArray 61))
      refine ⟨K_3.out, ?_⟩
      go_frame
      refine h_all1 (i := 9) (by kernel_rfl) ?_
      refine o_step rfl (by rfl) ?_
      refine wp_append_lies _ (.tmp 25) (.tmp 33) 70 rfl W0.heap.size 61 ie K_X.z 2 32 Try.underlying70 hie hz hsz hby rfl (by decide) (.slice va zs.length vc) zs.length (Go.Proofs.Yteodfbkfpboehaa.fl CkC zs) rfl (HZO.out.below HAB.out).row ⟨w5.heap.size, 0, none⟩ 1 1 (Ck.c ⟨x.c.n, ⟨ua, (app x.c.d.s X).length, uc, app x.c.d.s X⟩⟩) rfl rfl (World.news_of_block HNB.out) (ck_one _) (by decide) (by unfold maxLen; omega) (by omega) (by have := HAB.out.size; have := HLO.out; omega) _ rfl ?_
      intro g6 cap6 w6 ho6 hg6 ha6 hl6
      have HO6 := Lib.hid ho6
      have HG6 := Lib.hid hg6
      have K_4 := Lib.hid (show Cb Bx 61 (krow x.c) w6 ∧ Cb bx 23 #[(.slice xa xn xc)] w6 from ⟨(hg6.block Bx K_3.out.1.lt (fun e => HNX.out.1 e.symm)).trans K_3.out.1, (hg6.block bx K_3.out.2.lt (fun e => HNX.out.2.1 e.symm)).trans K_3.out.2⟩)
      have CL_4 := Lib.hid (show Cb bl 70 #[(.slice va zs.length vc)] w6 from (hg6.block bl CL_3.out.lt (fun e => HNX.out.2.2.1 e.symm)).trans CL_3.out)
      clear ho6 hg6 ha6 hl6
      refine ⟨K_4.out, ?_⟩
      go_frame
      refine h_all1 (i := 10) (by kernel_rfl) ?_
      refine o_step rfl (by rfl) ?_
      have c5 : w6.cell? ⟨bl, 0, none⟩ = some ((.slice va zs.length vc)) := CL_4.out.cell 0
      have f5 := CL_4.out.frozen 0
      refine wp_skip (w' := w6.setCell ⟨bl, 0, none⟩ (.slice (some ⟨g6, 0, none⟩) (zs.length + 1) cap6)) (by go_simp) ?_
      have oo5 := Off.of_grown (S := fun k => k = bl) (grown_set (w := w6) (g := bl) (o := 0) (.slice (some ⟨g6, 0, none⟩) (zs.length + 1) cap6)) (fun g hg => by cases hg; rfl)
      refine ⟨⟨K_4.out.1.off oo5 HNX.out.2.2.2.1, K_4.out.2.off oo5 HNX.out.2.2.2.2⟩, ?_⟩
      go_frame
      refine h_done (by kernel_rfl) ?_
      exact FIN.out _ BB_2.out ua uc HO.out g6 cap6 w6 HO6.out HG6.out CL_4.out
    · skip
      refine o_call (f := 32) (args := #[x.c.d.v, (.slice xa xn xc)]) rfl (by rfl) (by go_simp) ?_
      refine (HAP.out _ BB_0.out).mono ?_
      rintro e w5 ⟨u, rfl, ho, b5⟩
      obtain ⟨ua, uc, rfl, -, -⟩ := own_shape ho
      have HO := Lib.hid (show Own5 W w5 (.slice ua (app x.c.d.s X).length uc) (app x.c.d.s X) from owns_mono ho BB_0.out.size)
      have K_6 := Lib.hid (And.intro (K_0.out.1.below b5) (K_0.out.2.below b5))
      have CL_6 := Lib.hid (CL_0.out.below b5)
      have BB_6 := Lib.hid (below_add BB_0.out b5 BB_0.out.size)
      clear ho b5
      refine ⟨_, rfl, K_6.out, ?_⟩
      go_frame
      refine h_val (i := 7) (v := .agg (Ck.c ⟨x.c.n, ⟨ua, (app x.c.d.s X).length, uc, app x.c.d.s X⟩⟩).toArray) rfl (by kernel_rfl) (by kernel_rfl) (by kernel_rfl) (fun _ _ _ h => h) (by rfl) (fun wz hS => ?_) K_6.out ?_
      · skip
        go_simp
      go_frame
      refine h_all2 (i := 0) (j := 8) (by kernel_rfl) ?_ ?_
      · skip
        refine o_step rfl (by rfl) ?_
        have c7 : _ = some ((.slice va zs.length vc) : Value) := CL_6.out.cell 0
        refine wp_val (v := (.slice va zs.length vc)) (by go_simp) ?_
        clear c7
        refine ⟨K_6.out, ?_⟩
        go_frame
        refine h_all1 (i := 8) (by kernel_rfl) ?_
        refine o_step rfl (by rfl) ?_
        refine wp_buildSliceL 70 61 1 _ rfl w5.heap.size rfl Try.underlying70 [(0, .agg (Ck.c ⟨x.c.n, ⟨ua, (app x.c.d.s X).length, uc, app x.c.d.s X⟩⟩).toArray)] rfl _ (built_one 61 ie hie K_X.z hz 2 hsz (by decide) (by decide) (Ck.c ⟨x.c.n, ⟨ua, (app x.c.d.s X).length, uc, app x.c.d.s X⟩⟩) rfl) ?_
        have K_8 := Lib.hid (And.intro (K_6.out.1.alloc (.cells (Ck.c ⟨x.c.n, ⟨ua, (app x.c.d.s X).length, uc, app x.c.d.s X⟩⟩).toArray 61)) (K_6.out.2.alloc (.cells (Ck.c ⟨x.c.n, ⟨ua, (app x.c.d.s X).length, uc, app x.c.d.s X⟩⟩).toArray 61)))
        have CL_8 := Lib.hid (CL_6.out.alloc (.cells (Ck.c ⟨x.c.n, ⟨ua, (app x.c.d.s X).length, uc, app x.c.d.s X⟩⟩).toArray 61))
        have HNB := Lib.hid (heap_alloc_new w5 (.cells (Ck.c ⟨x.c.n, ⟨ua, (app x.c.d.s X).length, uc, app x.c.d.s X⟩⟩).toArray 61))
        have HAB := Lib.hid (BB_6.out.alloc BB_6.out.size (.cells (Ck.c ⟨x.c.n, ⟨ua, (app x.c.d.s X).length, uc, app x.c.d.s X⟩⟩).toArray 61))
        refine ⟨K_8.out, ?_⟩
        go_frame
        refine h_all1 (i := 9) (by kernel_rfl) ?_
        refine o_step rfl (by rfl) ?_
        refine wp_append_lies _ (.tmp 25) (.tmp 33) 70 rfl W0.heap.size 61 ie K_X.z 2 32 Try.underlying70 hie hz hsz hby rfl (by decide) (.slice va zs.length vc) zs.length (Go.Proofs.Yteodfbkfpboehaa.fl CkC zs) rfl (HZO.out.below HAB.out).row ⟨w5.heap.size, 0, none⟩ 1 1 (Ck.c ⟨x.c.n, ⟨ua, (app x.c.d.s X).length, uc, app x.c.d.s X⟩⟩) rfl rfl (World.news_of_block HNB.out) (ck_one _) (by decide) (by unfold maxLen; omega) (by omega) (by have := HAB.out.size; have := HLO.out; omega) _ rfl ?_
        intro g6 cap6 w6 ho6 hg6 ha6 hl6
        have HO6 := Lib.hid ho6
        have HG6 := Lib.hid hg6
        have K_9 := Lib.hid (show Cb Bx 61 (krow x.c) w6 ∧ Cb bx 23 #[(.slice xa xn xc)] w6 from ⟨(hg6.block Bx K_8.out.1.lt (fun e => HNX.out.1 e.symm)).trans K_8.out.1, (hg6.block bx K_8.out.2.lt (fun e => HNX.out.2.1 e.symm)).trans K_8.out.2⟩)
        have CL_9 := Lib.hid (show Cb bl 70 #[(.slice va zs.length vc)] w6 from (hg6.block bl CL_8.out.lt (fun e => HNX.out.2.2.1 e.symm)).trans CL_8.out)
        clear ho6 hg6 ha6 hl6
        refine ⟨K_9.out, ?_⟩
        go_frame
        refine h_all1 (i := 10) (by kernel_rfl) ?_
        refine o_step rfl (by rfl) ?_
        have c10 : w6.cell? ⟨bl, 0, none⟩ = some ((.slice va zs.length vc)) := CL_9.out.cell 0
        have f10 := CL_9.out.frozen 0
        refine wp_skip (w' := w6.setCell ⟨bl, 0, none⟩ (.slice (some ⟨g6, 0, none⟩) (zs.length + 1) cap6)) (by go_simp) ?_
        have oo10 := Off.of_grown (S := fun k => k = bl) (grown_set (w := w6) (g := bl) (o := 0) (.slice (some ⟨g6, 0, none⟩) (zs.length + 1) cap6)) (fun g hg => by cases hg; rfl)
        refine ⟨⟨K_9.out.1.off oo10 HNX.out.2.2.2.1, K_9.out.2.off oo10 HNX.out.2.2.2.2⟩, ?_⟩
        go_frame
        refine h_done (by kernel_rfl) ?_
        exact FIN.out _ BB_6.out ua uc HO.out g6 cap6 w6 HO6.out HG6.out CL_9.out
      · skip
        refine o_step rfl (by rfl) ?_
        refine wp_buildSliceL 70 61 1 _ rfl w5.heap.size rfl Try.underlying70 [(0, .agg (Ck.c ⟨x.c.n, ⟨ua, (app x.c.d.s X).length, uc, app x.c.d.s X⟩⟩).toArray)] rfl _ (built_one 61 ie hie K_X.z hz 2 hsz (by decide) (by decide) (Ck.c ⟨x.c.n, ⟨ua, (app x.c.d.s X).length, uc, app x.c.d.s X⟩⟩) rfl) ?_
        have K_11 := Lib.hid (And.intro (K_6.out.1.alloc (.cells (Ck.c ⟨x.c.n, ⟨ua, (app x.c.d.s X).length, uc, app x.c.d.s X⟩⟩).toArray 61)) (K_6.out.2.alloc (.cells (Ck.c ⟨x.c.n, ⟨ua, (app x.c.d.s X).length, uc, app x.c.d.s X⟩⟩).toArray 61)))
        have CL_11 := Lib.hid (CL_6.out.alloc (.cells (Ck.c ⟨x.c.n, ⟨ua, (app x.c.d.s X).length, uc, app x.c.d.s X⟩⟩).toArray 61))
        have HNB := Lib.hid (heap_alloc_new w5 (.cells (Ck.c ⟨x.c.n, ⟨ua, (app x.c.d.s X).length, uc, app x.c.d.s X⟩⟩).toArray 61))
        have HAB := Lib.hid (BB_6.out.alloc BB_6.out.size (.cells (Ck.c ⟨x.c.n, ⟨ua, (app x.c.d.s X).length, uc, app x.c.d.s X⟩⟩).toArray 61))
        refine ⟨K_11.out, ?_⟩
        go_frame
        refine h_all1 (i := 0) (by kernel_rfl) ?_
        refine o_step rfl (by rfl) ?_
        have c12 : _ = some ((.slice va zs.length vc) : Value) := CL_11.out.cell 0
        refine wp_val (v := (.slice va zs.length vc)) (by go_simp) ?_
        clear c12
        refine ⟨K_11.out, ?_⟩
        go_frame
        refine h_all1 (i := 9) (by kernel_rfl) ?_
        refine o_step rfl (by rfl) ?_
        refine wp_append_lies _ (.tmp 25) (.tmp 33) 70 rfl W0.heap.size 61 ie K_X.z 2 32 Try.underlying70 hie hz hsz hby rfl (by decide) (.slice va zs.length vc) zs.length (Go.Proofs.Yteodfbkfpboehaa.fl CkC zs) rfl (HZO.out.below HAB.out).row ⟨w5.heap.size, 0, none⟩ 1 1 (Ck.c ⟨x.c.n, ⟨ua, (app x.c.d.s X).length, uc, app x.c.d.s X⟩⟩) rfl rfl (World.news_of_block HNB.out) (ck_one _) (by decide) (by unfold maxLen; omega) (by omega) (by have := HAB.out.size; have := HLO.out; omega) _ rfl ?_
        intro g6 cap6 w6 ho6 hg6 ha6 hl6
        have HO6 := Lib.hid ho6
        have HG6 := Lib.hid hg6
        have K_13 := Lib.hid (show Cb Bx 61 (krow x.c) w6 ∧ Cb bx 23 #[(.slice xa xn xc)] w6 from ⟨(hg6.block Bx K_11.out.1.lt (fun e => HNX.out.1 e.symm)).trans K_11.out.1, (hg6.block bx K_11.out.2.lt (fun e => HNX.out.2.1 e.symm)).trans K_11.out.2⟩)
        have CL_13 := Lib.hid (show Cb bl 70 #[(.slice va zs.length vc)] w6 from (hg6.block bl CL_11.out.lt (fun e => HNX.out.2.2.1 e.symm)).trans CL_11.out)
        clear ho6 hg6 ha6 hl6
        refine ⟨K_13.out, ?_⟩
        go_frame
        refine h_all1 (i := 10) (by kernel_rfl) ?_
        refine o_step rfl (by rfl) ?_
        have c14 : w6.cell? ⟨bl, 0, none⟩ = some ((.slice va zs.length vc)) := CL_13.out.cell 0
        have f14 := CL_13.out.frozen 0
        refine wp_skip (w' := w6.setCell ⟨bl, 0, none⟩ (.slice (some ⟨g6, 0, none⟩) (zs.length + 1) cap6)) (by go_simp) ?_
        have oo14 := Off.of_grown (S := fun k => k = bl) (grown_set (w := w6) (g := bl) (o := 0) (.slice (some ⟨g6, 0, none⟩) (zs.length + 1) cap6)) (fun g hg => by cases hg; rfl)
        refine ⟨⟨K_13.out.1.off oo14 HNX.out.2.2.2.1, K_13.out.2.off oo14 HNX.out.2.2.2.2⟩, ?_⟩
        go_frame
        refine h_done (by kernel_rfl) ?_
        exact FIN.out _ BB_6.out ua uc HO.out g6 cap6 w6 HO6.out HG6.out CL_13.out
  case stop =>
    rintro D9 c pre W hD _ h hDW
    exact h.elim
  case done =>
    rintro D9 ys W hD hS ⟨v, zs, hI⟩ hDW
    subst hT
    have hbl1 := HLN.out
    have hbxw := HBX.out
    have hnS : ∀ q, W0.heap.size ≤ q → ¬ S q := fun q hq hs => by
      have a1 := HLT.out q hs
      have a2 := B4.out.size
      omega
    have hnb : ¬ S bl := fun hs => by have a1 := HLT.out bl hs; omega
    have hfl : flat zs = (part l (i : Nat) (j : Nat)).map (fun s => app s X) := by rw [flat_is X zs ys hI.is, hS, ptc_flat, HR.out.1]
    have HFL := Lib.hid hfl
    have HPOS := Lib.hid (pos_is X hI.is)
    have RW := Lib.hid (((H0.out.below B4.out).off hI.off (fun q hq e => hnb (e ▸ hq))).below (below_drew W))
    have HOFF := Lib.hid hI.off
    have HZ := Lib.hid hI.own
    have CN := Lib.hid (hI.c.below (below_drew W))
    have HDW := Lib.hid (And.intro hD hDW)
    have HNS := Lib.hid (And.intro hnS hnb)
    have HWT := Lib.hid (show wq l + Wc.wt zs ≤ 1300000000 by
      have h1 := wt_runs HPOS.out
      rw [hfl, List.length_map] at h1
      have h2 : (part l (i : Nat) (j : Nat)).length ≤ l.length := by unfold part; rw [List.length_drop, List.length_take]; omega
      have h3 := HLL.out
      unfold wq
      omega)
    have HLEN := Lib.hid (show ∀ z ∈ zs, z.d.s.length ≤ 100000 from fun z hz => by
      have h1 : z.d.s ∈ flat zs := List.mem_flatMap.2 ⟨z, hz, by rw [List.mem_replicate]; exact ⟨Nat.ne_of_gt (HPOS.out z hz), rfl⟩⟩
      rw [hfl] at h1
      obtain ⟨s, hs1, hs2⟩ := List.mem_map.1 h1
      have h3 : s ∈ l := by unfold part at hs1; exact List.mem_of_mem_take (List.mem_of_mem_drop hs1)
      have h4 := app_len s X
      have h5 := HXX.out.2.2 s h3
      have h6 := HXN.out
      rw [hs2] at h4
      omega)
    obtain ⟨va, vc, hvv, -, -⟩ := own_shape hI.own.row
    obtain ⟨zn, hzn⟩ : ∃ n, zs.length = n := ⟨_, rfl⟩
    rw [hzn] at hvv
    subst hvv
    clear hI hS hD hDW hfl hnS hnb hzn hbl1 hbxw
    gi_wp2
    go_upto_region 8 with fail
    refine wp_nopanic ?_
    refine h_start (S := fun W1 => Cb bl 70 #[.slice va zn vc] W1) (by kernel_rfl) ?_
    refine h_val (i := 0) (v := .pointer (some ⟨rb, 0, none⟩)) rfl (by kernel_rfl) (by kernel_rfl) (by kernel_rfl) (fun _ _ _ h => h) (by rfl) (fun wz hS => ?_) CN.out ?_
    · go_simp
    go_frame
    refine h_val (i := 2) (v := .int .i64 (i : Nat)) rfl (by kernel_rfl) (by kernel_rfl) (by kernel_rfl) (fun _ _ _ h => h) (by rfl) (fun wz hS => ?_) CN.out ?_
    · go_simp
    go_frame
    refine h_val (i := 3) (v := .int .i64 (j : Nat)) rfl (by kernel_rfl) (by kernel_rfl) (by kernel_rfl) (fun _ _ _ h => h) (by rfl) (fun wz hS => ?_) CN.out ?_
    · go_simp
    go_frame
    refine h_val (i := 4) (v := .slice va zn vc) rfl (by kernel_rfl) (by kernel_rfl) (by kernel_rfl) (fun _ _ _ h => h) (by rfl) (fun wz hS => ?_) CN.out ?_
    · have q : wz.cell? ⟨bl, 0, none⟩ = some (.slice va zn vc) := hS.cell 0
      go_simp
    go_frame
    refine h_all1 (i := 1) (by kernel_rfl) ?_
    refine o_call (f := 29) (args := #[.pointer (some ⟨rb, 0, none⟩)]) rfl (by rfl) (by go_simp) ?_
    refine (pa_write RW.out).mono ?_
    rintro e w6 ⟨tb6, S6, rfl, cc6, ⟨D6, R6, q1, q2, q3⟩, hs6, oo6⟩
    have K6 := Lib.hid (CN.out.off oo6 HNS.out.2)
    have Z6 := Lib.hid ((HZ.out.below (below_drew W)).off oo6 (fun q hq _ => HNS.out.1 q hq))
    have M6 := Lib.hid (show w6.heap[D9]? = some (.deferred (some [])) from (oo6.block D9 (lt_of_heap HDW.out.2) (HNS.out.1 D9 HDW.out.1)).trans HDW.out.2)
    have hzl : ∀ q, (W0.heap.size ≤ q ∧ q < W.heap.size) → ¬ S6 q := fun q hq hs => by
      rcases (hs6 q hs).1 with h1 | h1
      · exact HNS.out.1 q hq.1 h1
      · have : W.heap.size ≤ q := h1
        omega
    have hbz : ¬ S6 bl := fun hs => by
      rcases (hs6 bl hs).1 with h1 | h1
      · exact HNS.out.2 h1
      · have h2 : W.heap.size ≤ bl := h1
        have := HLN.out.2
        have := HOFF.out.size
        omega
    have HZL := Lib.hid (And.intro hzl hbz)
    refine ⟨_, rfl, K6.out, ?_⟩
    go_frame
    refine h_all1 (i := 5) (by kernel_rfl) ?_
    refine o_call (f := 30) (args := #[.pointer (some ⟨tb6, 0, none⟩), .int .i64 (i : Nat), .int .i64 (j : Nat), .slice va zn vc]) rfl (by rfl) (by go_simp) ?_
    refine (tq_put R6 q1 q2 q3 i j HIJ.out.1 HIJ.out.2 (.slice va zn vc) zs Z6.out.reads.1 (fun q hq => ⟨own_lt7 Z6.out.row hq, HZL.out.1 q ⟨own_base HZ.out.row hq, own_lt7 HZ.out.row hq⟩, Z6.out.apart q hq⟩) (fun z hz => ⟨Z6.out.reads.2 z hz, HLEN.out z hz, fun q hq => ⟨HZL.out.1 q ⟨own_base (HZ.out.sets z hz) hq, own_lt7 (HZ.out.sets z hz) hq⟩, own_lt7 (Z6.out.sets z hz) hq⟩⟩) HWT.out).mono ?_
    rintro e w7 ⟨rfl, S7, t7, hs7, oo7⟩
    have hnewb : ∀ q, NewB zs q → W0.heap.size ≤ q ∧ ∃ cs t f, w6.heap[q]? = some (.cells cs t f) ∧ t = 77 := by
      rintro q ⟨z, hz, hq⟩
      obtain ⟨cur, hc⟩ := own_tag (Z6.out.sets z hz) hq
      exact ⟨own_base (HZ.out.sets z hz) hq, _, _, _, hc, rfl⟩
    have hX7 : ∀ q, (S6 q ∨ NewB zs q) → q = bl ∨ q = rb ∨ q = D9 → False := fun q hq he => by
      have a1 := HLN.out
      have a2 := HBX.out
      have a3 := HOFF.out.size
      have a4 := B4.out.size
      rcases hq with hq | hq
      · rcases he with rfl | rfl | rfl
        · exact HZL.out.2 hq
        · exact (hs6 q hq).2 rfl
        · exact HZL.out.1 q ⟨HDW.out.1, lt_of_heap HDW.out.2⟩ hq
      · obtain ⟨b1, cs, t, f, b2, b3⟩ := hnewb q hq
        rcases he with rfl | rfl | rfl
        · omega
        · have := HLT.out q H0.out.mem.1; omega
        · rw [M6.out] at b2; cases b2
    refine ⟨_, rfl, K6.out.off oo7 (fun hq => hX7 bl hq (.inl rfl)), ?_⟩
    have hcb := cc6.off oo7 (fun hq => hX7 rb hq (.inr (.inl rfl)))
    have M7 := Lib.hid (show w7.heap[D9]? = some (.deferred (some [])) from (oo7.block D9 (lt_of_heap M6.out) (fun hq => hX7 D9 hq (.inr (.inr rfl)))).trans M6.out)
    have FINAL : Cb rb 32 #[.pointer (some ⟨tb6, 0, none⟩)] w7 ∧ Tq S7 tb6 (l.take i ++ ((part l (i : Nat) (j : Nat)).map (fun s => app s X) ++ l.drop j)) w7 ∧ ¬ D9 = rb ∧ Off S w w7 ∧ (∀ k, S7 k → (UpS S w k ∧ k ≠ rb) ∧ ¬ k = D9) ∧ w.heap.size ≤ D9 := by
      have a3 := HOFF.out.size
      have a4 := B4.out.size
      have a5 := oo6.size
      have a6 := oo7.size
      have a7 : W.drew.heap.size = W.heap.size := rfl
      have a8 := HBX.out
      have a9 := HLN.out
      have hmap : ∀ k, S7 k → (UpS S w k ∧ k ≠ rb) ∧ ¬ k = D9 := fun k hk => by
        have d1 := HDW.out.1
        have d2 := lt_of_heap HDW.out.2
        have hr := HLT.out rb H0.out.mem.1
        rcases hs7 k hk with hk | hk | hk
        · refine ⟨⟨(hs6 k hk).1.elim .inl (fun h => .inr (by omega)), (hs6 k hk).2⟩, fun e => ?_⟩
          exact hX7 k (.inl hk) (.inr (.inr e))
        · refine ⟨⟨.inr (by have := (hnewb k hk).1; omega), fun e => hX7 k (.inr hk) (.inr (.inl e))⟩, fun e => hX7 k (.inr hk) (.inr (.inr e))⟩
        · have d3 := lt_of_heap M6.out
          exact ⟨⟨.inr (by omega), by omega⟩, by omega⟩
      refine ⟨hcb, by have := t7; rwa [HFL.out] at this, fun hd => ?_, ?_, hmap, by have := HDW.out.1; omega⟩
      · have := HDW.out.1; have := HLT.out rb H0.out.mem.1; omega
      · have o1 : Off (UpS S w) w W := Off.below_l B4.out (HOFF.out.mono (fun k hk => by subst hk; exact .inr (by omega)))
        have o2 : Off (UpS S w) W w6 := Off.below_l (below_drew W) (oo6.mono (fun k hk => .inl hk))
        have o3 : Off (UpS S w) w6 w7 := oo7.mono (fun k hk => by
          rcases hk with hk | hk
          · exact (hs6 k hk).1.elim .inl (fun h => .inr (by omega))
          · exact .inr (by have := (hnewb k hk).1; omega))
        exact ((o1.seq o2).seq o3).unup
    have HF := Lib.hid FINAL
    clear FINAL hX7 hnewb hcb hzl hbz q1 q2 q3 t7 hs7 oo7 cc6 hs6 oo6
    go_frame
    refine h_done (by kernel_rfl) ?_
    dsimp only
    go_wp2
    refine ⟨by simp, .inl ⟨_, _, rfl, run_takeDeferred M7.out, ?_⟩⟩
    have hG := grownBy_putObj' w7 D9 (.deferred none)
    have hO : Off (fun k => k = D9) w7 (w7.putObj D9 (.deferred none)) := Off.of_grown hG (fun g hg => by cases hg; rfl)
    have hz8 := hO.size
    refine ⟨.int .i64 0, ?_, rfl, ?_, ?_⟩
    · simp [results, Try.f13, go_sem]
    · exact Rp.cut (.inr ⟨tb6, S7, HF.out.1.off hO (fun e => HF.out.2.2.1 e.symm), HF.out.2.1.off hO (fun k hk => (HF.out.2.2.2.2.1 k hk).2), fun k hk => (HF.out.2.2.2.2.1 k hk).1, .inl H0.out.mem.1⟩)
    · exact (((HF.out.2.2.2.1.mono (S' := UpS S w) (fun k hk => .inl hk)).seq (hO.mono (S' := UpS S w) (fun k hk => by subst hk; exact .inr HF.out.2.2.2.2.2)))).unup
end
end Go.Proofs.Yteodfbkfpboehaa
