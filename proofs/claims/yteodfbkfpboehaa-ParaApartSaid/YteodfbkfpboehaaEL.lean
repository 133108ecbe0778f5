
import Derived.Test.YteodfbkfpboehaaEK
/- EL: records told, each in memory of its own -/
namespace Go.Proofs.Yteodfbkfpboehaa
open Go.RowKit Go.Shelf
set_option linter.unusedVariables false
set_option maxRecDepth 100000
attribute [local go_sem] Oper.semAt_some

/-- A set's slice in a cell. -/
def svD : Cel Sv := ⟨fun x => [x.v], 1, fun _ => rfl, fun x u hu => by obtain rfl := List.mem_singleton.1 hu; rfl, by decide⟩
/-- A slice of sets that the call made: the row in blocks from B on, the sets in blocks from C on. -/
structure Sown (B C : Nat) (w : World) (v : Value) (ss : List Sv) : Prop where
  row : w.ownsRow B 33 1 v ss.length (Go.Proofs.Yteodfbkfpboehaa.fl svD ss)
  sets : ∀ s ∈ ss, w.ownsRow C 77 5 s.v s.s.length (Go.Proofs.Yteodfbkfpboehaa.fl attC s.s)
section
variable {B B' C C' : Nat} {w w' : World} {v : Value} {ss : List Sv}
theorem Sown.below (h : Sown B C w v ss) (hb : Below w.heap.size w w') : Sown B C w' v ss := ⟨owns_below h.row hb, fun z hz => owns_below (h.sets z hz) hb⟩
theorem Sown.mono (h : Sown B C w v ss) (hB : B' ≤ B) (hC : C' ≤ C) : Sown B' C' w v ss := ⟨owns_mono h.row hB, fun z hz => owns_mono (h.sets z hz) hC⟩
theorem Sown.nil (B C : Nat) (w : World) : Sown B C w (.slice none 0 0) [] := ⟨World.ownsRow_nil _ _ _ _, by simp⟩
theorem Sown.reads (h : Sown B C w v ss) : Row svD w v ss ∧ ∀ z ∈ ss, Arow w z.v z.s := ⟨(Row.of_owns (C := svD) h.row).1, fun z hz => (Row.of_owns (C := attC) (h.sets z hz)).1⟩
theorem Sown.off {S : Nat → Prop} (h : Sown B C w v ss) (ho : Off S w w') (h1 : ∀ k, v.ownBlock = some k → ¬ S k) (h2 : ∀ k, C ≤ k → k < w.heap.size → (∃ cs f, w.heap[k]? = some (.cells cs 77 f)) → ¬ S k) : Sown B C w' v ss :=
  ⟨owns_kept h.row (fun g hg => ho.block g (own_lt7 h.row hg) (h1 g hg)),
   fun z hz => owns_kept (h.sets z hz) (fun g hg => ho.block g (own_lt7 (h.sets z hz) hg) (h2 g (own_base (h.sets z hz) hg) (own_lt7 (h.sets z hz) hg) (by obtain ⟨c, hc⟩ := own_tag (h.sets z hz) hg; exact ⟨_, _, hc⟩)))⟩
theorem Sown.grown {row : Option Nat} (h : Sown B C w v ss) (hg : w.grownBy w' row) (hr : ∀ r, row = some r → ∃ o : Obj, w.heap[r]? = some o ∧ o.isCells = false) : Sown B C w' v ss :=
  ⟨own_grown h.row hg hr, fun z hz => own_grown (h.sets z hz) hg hr⟩
theorem Sown.more {v' : Value} (h : Sown B C w v ss) (hg : w.grownBy w' v.ownBlock) (z : Sv) (hz : w.ownsRow C 77 5 z.v z.s.length (Go.Proofs.Yteodfbkfpboehaa.fl attC z.s))
    (ho : w'.ownsRow B 33 1 v' (ss.length + 1) (Go.Proofs.Yteodfbkfpboehaa.fl svD ss ++ svD.c z)) : Sown B C w' v' (ss ++ [z]) := by
  have kept : ∀ {u : Value} {m : Nat} {ys : List Value}, w.ownsRow C 77 5 u m ys → w'.ownsRow C 77 5 u m ys := fun {u m ys} hu =>
    owns_kept hu fun g hgo => hg.block g (own_lt7 hu hgo) fun hS => by
      obtain ⟨c1, h1⟩ := own_tag hu hgo
      obtain ⟨c2, h2⟩ := own_tag h.row hS.symm
      rw [h1] at h2
      injection h2 with h2
      injection h2 with _ h2 _
      exact absurd h2 (by decide)
  refine ⟨?_, fun y hy => ?_⟩
  · rw [List.length_append, fl_app, fl_one]; exact ho
  · rcases List.mem_append.1 hy with hy | hy
    · exact kept (h.sets y hy)
    · obtain rfl := List.mem_singleton.1 hy
      exact kept hz
end
theorem flatN_le {D : Sv → Prop} : ∀ q : List (NCk D 60000), (flat (flatN q)).length ≤ 60000 * q.length
  | [] => Nat.le_refl _
  | x :: q => by
    have ih := flatN_le q
    have := x.b
    rw [show flatN (x :: q) = x.c :: flatN q from rfl, flat_cons, List.length_append, List.length_replicate, List.length_cons]
    omega
theorem info_sl : ∃ i, Try.prog.info? 33 = some i ∧ i.zero = some (.slice none 0 0) ∧ i.size = 1 ∧ i.bytes = 24 := ⟨_, rfl, rfl, rfl, rfl⟩
theorem built_sl (a : Option Addr) (n c : Nat) : Try.prog.builtSlice 33 1 [(0, .slice a n c)] = some #[.slice a n c] := by kernel_rfl
/-- What the cell of Over's list, and the list's own memory, are at in a round: m of the run's records are there. -/
structure InO {D : Sv → Prop} (W0 W : World) (B0 bl : Nat) (v0 : Value) (pre : List (NCk D 60000)) (x : Sv) (m : Nat) (v : Value) (ss : List Sv) (wr : World) : Prop where
  c : Cb bl 22 #[v] wr
  own : Sown B0 W0.heap.size wr v ss
  is : ss.map Sv.s = flat (flatN pre) ++ List.replicate m x.s
  off : Off (fun k => k = bl ∨ v0.ownBlock = some k) W wr
  blk : ∀ g, v.ownBlock = some g → v0.ownBlock = some g ∨ W.heap.size ≤ g
/-- What a range that gathers records keeps between two rounds. -/
structure ApO {D : Sv → Prop} (W0 : World) (B0 bl : Nat) (X : Nat → Prop) (pre : List (NCk D 60000)) (v : Value) (ss : List Sv) (W : World) : Prop where
  c : Cb bl 22 #[v] W
  own : Sown B0 W0.heap.size W v ss
  is : ss.map Sv.s = flat (flatN pre)
  off : Off X W0 W
  blk : ∀ g, v.ownBlock = some g → X g ∨ W0.heap.size ≤ g
section
variable {D : Sv → Prop} {W0 W W' wr w5 w6 : World} {B0 bl : Nat} {X : Nat → Prop} {pre : List (NCk D 60000)} {v v0 : Value} {ss : List Sv} {x : Sv} {m : Nat}
theorem ApO.grown {row : Option Nat} (h : ApO W0 B0 bl X pre v ss W) (hg : W.grownBy W' row) (hr : ∀ r, row = some r → W0.heap.size ≤ r ∧ ∃ o : Obj, W.heap[r]? = some o ∧ o.isCells = false) : ApO W0 B0 bl X pre v ss W' :=
  ⟨cb_grown h.c hg (fun r e => (hr r e).2), h.own.grown hg (fun r e => (hr r e).2), h.is, (h.off.trans (Off.of_grown hg (fun g e => .inr (hr g e).1))), h.blk⟩
theorem ApO.below (h : ApO W0 B0 bl X pre v ss W) (hb : Below W.heap.size W W') : ApO W0 B0 bl X pre v ss W' :=
  ⟨h.c.below hb, h.own.below hb, h.is, h.off.seq (Off.of_below hb), h.blk⟩
theorem kpn_off2 {n0 : Nat} {X : Nat → Prop} {W W' : World} {row : Option Nat} (bl : Nat) (hx : X bl) (h : Off (fun k => k = bl ∨ row = some k) W W') (hr : ∀ g, row = some g → X g ∨ (n0 ≤ g ∧ ∃ cs t f, W.heap[g]? = some (.cells cs t f) ∧ t ≠ 102)) : KpN n0 X W W' :=
  ⟨h.os, h.tape, h.output, h.size, fun k o hk hnx hc => (h.block k (lt_of_heap hk) (fun hs => by
    rcases hs with rfl | hs
    · exact hnx hx
    · rcases hr k hs with hr | ⟨q1, cs, t, f, q2, q3⟩
      · exact hnx hr
      · rcases hc with hc | ⟨cs2, t2, f2, rfl, ht⟩
        · omega
        · rw [hk] at q2
          injection q2 with q2
          injection q2 with _ e _
          exact q3 (e ▸ ht))).trans hk⟩
/-- The end of a round. -/
theorem ApO.next (h : ApO W0 B0 bl X pre v0 ss W) (y : NCk D 60000) {v : Value} {ss' : List Sv} (k : InO W0 W B0 bl v0 pre y.c.d y.c.n v ss' wr) (hx : X bl) :
    KeepsFrom W0.heap.size W wr ∧ KpN W0.heap.size X W wr ∧ ∃ v2 ss2, ApO W0 B0 bl X (pre ++ [y]) v2 ss2 wr := by
  have hob : ∀ g, v0.ownBlock = some g → X g ∨ (W0.heap.size ≤ g ∧ ∃ cs t f, W.heap[g]? = some (.cells cs t f) ∧ t ≠ 102) := fun g hg => by
    obtain ⟨cur, hc⟩ := own_tag h.own.row hg
    exact (h.blk g hg).imp id (fun q => ⟨q, _, _, _, hc, by decide⟩)
  have k1 := (keeps_off k.off (fun q hq _ => by
    rcases hq with rfl | hq
    · exact ⟨_, _, _, h.c⟩
    · obtain ⟨cur, hc⟩ := own_tag h.own.row hq
      exact ⟨_, _, _, hc⟩)).from W0.heap.size
  have k2 := kpn_off2 bl hx k.off hob
  refine ⟨k1, k2, v, ss', ⟨k.c, k.own, ?_, ?_, ?_⟩⟩
  · rw [k.is, flatN_app, flat_app, show flatN [y] = [y.c] from rfl, flat_cons, flat_nil, List.append_nil]
  · exact h.off.trans (k.off.mono (fun q hq => by
      rcases hq with rfl | hq
      · exact .inl hx
      · exact h.blk q hq))
  · intro g hg
    rcases k.blk g hg with q | q
    · exact h.blk g q
    · exact .inr (Nat.le_trans h.off.size q)
/-- One record more. -/
theorem InO.next {va : Option Addr} {vc : Nat} (h : InO W0 W B0 bl v0 pre x m (.slice va ss.length vc) ss wr) (hbl : bl < W.heap.size) (hob : ∀ g, v0.ownBlock = some g → g ≠ bl) (hz : W0.heap.size ≤ wr.heap.size) (hb' : Below wr.heap.size wr w5) (ua : Option Addr) (uc : Nat)
    (ho : Own5 wr w5 (.slice ua x.s.length uc) x.s) (g6 cap6 : Nat)
    (ho6 : w6.ownsRow B0 33 1 (.slice (some ⟨g6, 0, none⟩) (ss.length + 1) cap6) (ss.length + 1) (Go.Proofs.Yteodfbkfpboehaa.fl svD ss ++ [.slice ua x.s.length uc]))
    (hg : (w5.alloc (.cells #[.slice ua x.s.length uc] 33)).grownBy w6 (Value.slice va ss.length vc).ownBlock) (ha : (Value.slice va ss.length vc).ownBlock = some g6 ∨ g6 = (w5.alloc (.cells #[.slice ua x.s.length uc] 33)).heap.size) (hC : Cb bl 22 #[.slice va ss.length vc] w6) :
    InO W0 W B0 bl v0 pre x (m + 1) (.slice (some ⟨g6, 0, none⟩) (ss.length + 1) cap6) (ss ++ [⟨ua, x.s.length, uc, x.s⟩]) (w6.setCell ⟨bl, 0, none⟩ (.slice (some ⟨g6, 0, none⟩) (ss.length + 1) cap6)) := by
  have hb2 := hb'.alloc hb'.size (.cells #[.slice ua x.s.length uc] 33)
  have hst := grown_set (w := w6) (g := bl) (o := 0) (.slice (some ⟨g6, 0, none⟩) (ss.length + 1) cap6)
  have hsz := h.off.size
  have hobl : ∀ g, (Value.slice va ss.length vc).ownBlock = some g → g ≠ bl := fun g hg => by
    rcases h.blk g hg with q | q
    · exact hob g q
    · omega
  have hg6 : g6 ≠ bl := by
    rcases ha with q | q
    · exact hobl g6 q
    · have := hb2.size; omega
  have O6 : Off (fun k => k = bl ∨ v0.ownBlock = some k) W w6 := by
    refine (h.off.seq (Off.of_below hb2)).trans (Off.of_grown hg (fun g hg' => ?_))
    rcases h.blk g hg' with q | q
    · exact .inl (.inr q)
    · exact .inr q
  have O7 := O6.seq (Off.of_grown (S := fun k => k = bl ∨ v0.ownBlock = some k) hst (fun g hg => by cases hg; exact .inl rfl))
  have hS := Sown.more (h.own.below hb2) hg ⟨ua, x.s.length, uc, x.s⟩ (owns_mono (owns_below ho (below_alloc1 w5 _)) hz) ho6
  have hcc : Cb bl 22 #[.slice (some ⟨g6, 0, none⟩) (ss.length + 1) cap6] (w6.setCell ⟨bl, 0, none⟩ (.slice (some ⟨g6, 0, none⟩) (ss.length + 1) cap6)) := by
    show (w6.setCell _ _).heap[bl]? = _
    rw [heap_set _ hC]; rfl
  refine ⟨hcc, hS.off (Off.of_grown (S := fun k => k = bl) hst (fun g hg => by cases hg; rfl)) (fun k hk e => ?_) (fun k hk _ hcs e => ?_), ?_, O7, fun g hg' => ?_⟩
  · cases hk; exact hg6 e
  · subst e
    obtain ⟨cs, f, hcs⟩ := hcs
    rw [show w6.heap[k]? = _ from hC] at hcs
    injection hcs with hcs
    injection hcs with _ e _
    exact absurd e (by decide)
  · rw [List.map_append, h.is, List.append_assoc, List.replicate_succ']; rfl
  · cases hg'
    rcases ha with q | q
    · exact h.blk _ q
    · exact .inr (by rw [q]; exact Nat.le_trans hsz hb2.size)
end
section
variable {S : Nat → Prop} {tb rb : Nat} {l ls : List (List Att)} {w w' W : World}
set_option maxHeartbeats 4000000 in
theorem pa_over0 (h : Rp S rb l w) (hlt : ∀ k, S k → k < w.heap.size) (hl : l.length ≤ 60000) (i j : Nat) (hij : i ≤ j) (hj : j ≤ l.length) :
    Calls Try.prog 10 #[.pointer (some ⟨rb, 0, none⟩), .int .i64 (i : Nat), .int .i64 (j : Nat)] w fun e w' => ∃ v ss, e = .returned (.tuple #[v, .int .i64 0]) ∧ Sown w.heap.size w.heap.size w' v ss ∧ ss.map Sv.s = part l (i : Nat) (j : Nat) ∧ Below w.heap.size w w' := by
  obtain ⟨ie, hie, hz, hsz, hby⟩ := info_sl
  have HRE := Lib.hid (fun W (hb : Below w.heap.size w W) => pa_reach (h.below hb) (i : Nat) (j : Nat))
  rw [mrE_yes (by omega)] at HRE
  have HRD := Lib.hid (fun W (hb : Below w.heap.size w W) => pa_readS (h.below hb))
  have HLT := Lib.hid hlt
  have HIJ := Lib.hid (And.intro hij hj)
  have HLL := Lib.hid hl
  have HM := Lib.hid (show ((j : Nat) : Int) - ((i : Nat) : Int) = ((j - i : Nat) : Int) ∧ j - i ≤ 60000 by omega)
  have u1 : 0 ≤ ((j : Nat) : Int) - ((i : Nat) : Int) := by omega
  have u2 : ((j : Nat) : Int) - ((i : Nat) : Int) ≤ 60000 := by omega
  clear h hlt hl hij hj
  obtain ⟨m0, hm0⟩ : ∃ m, j - i = m := ⟨_, rfl⟩
  rw [hm0] at HM
  clear hm0
  refine (callsIn_wide (n := 9)).1 ?_
  refine callsIn_of_wp_marks Try.func10 rfl trivial ?_ rfl
  simp only [Try.ntmps10, List.size_toArray, List.length_cons, List.length_nil, Nat.reduceAdd, Nat.reduceSub, Array.replicate_succ, Array.replicate_zero, List.push_toArray, List.append_toArray, List.nil_append, List.cons_append]
  refine wpIn_wide.2 ?_
  go_wp2_with (first
    | (go_at_call 27; refine (HRE.out _ (Below.refl _ _)).mono ?_; rintro e w1 ⟨rfl, bb⟩; have B1 := Lib.hid bb; clear bb)
    | (refine wpList_make_own _ rfl (.const (.int .i64 0)) (.tmp 20) 22 rfl w.heap.size 33 ie (.slice none 0 0) 1 Try.underlying22 hie hz hsz .i64 .i64 (((j : Nat) : Int) - ((i : Nat) : Int)) m0 rfl rfl HM.out.1 (by rw [hby]; have := HM.out.2; omega) (by unfold maxLen; have := HM.out.2; omega) B1.out.size ?_; intro w2 ho2 hg2; refine Hid.out ?_)
    | fail)
  have B2 := Lib.hid (B1.out.grown hg2 B1.out.size (fun r e => by cases e))
  have HO2 := Lib.hid ho2
  obtain ⟨g0, hg0⟩ : ∃ g, w1.heap.size = g := ⟨_, rfl⟩
  rw [hg0] at HO2 ⊢
  have HG0 := Lib.hid (show w.heap.size ≤ g0 ∧ g0 < w2.heap.size from ⟨by rw [← hg0]; exact B1.out.size, own_lt7 HO2.out rfl⟩)
  clear ho2 hg2 hg0
  refine Lib.hid ?_
  go_upto_region 5 with fail
  have V4 := cb_new w2 22 #[.slice (some ⟨g0, 0, none⟩) 0 m0]
  have B4 := B2.out.alloc B2.out.size (.cells #[.slice (some ⟨g0, 0, none⟩) 0 m0] 22)
  have O4 := owns_below HO2.out (below_alloc1 w2 (.cells #[.slice (some ⟨g0, 0, none⟩) 0 m0] 22))
  obtain ⟨bl, hbl⟩ : ∃ bl, w2.heap.size = bl := ⟨_, rfl⟩
  rw [hbl] at V4 HG0
  refine Hid.out ?_
  rw [hbl]
  refine Lib.hid ?_
  refine with_worldT (fun W3 => Cb bl 22 #[.slice (some ⟨g0, 0, none⟩) 0 m0] W3 ∧ Below w.heap.size w W3 ∧ W3.ownsRow w.heap.size 33 1 (.slice (some ⟨g0, 0, none⟩) 0 m0) 0 []) ⟨V4, B4, O4⟩ fun W3 hW3 => ?_
  have CL3 := Lib.hid hW3.1
  have B3 := Lib.hid hW3.2.1
  have OW3 := Lib.hid hW3.2.2
  clear hW3 V4 B4 O4 hbl
  go_wp2_with (first
    | (go_at_call 24; refine (HRD.out _ B3.out).mono ?_; rintro e w4 ⟨tb, S', D, R, rfl, hr, ss, hs', bb⟩; have SS := Lib.hid ss; have HR := Lib.hid hr; have HS := Lib.hid hs'; have B4 := Lib.hid (below_add B3.out bb B3.out.size); have CL4 := Lib.hid (CL3.out.below bb); have OW4 := Lib.hid (owns_below OW3.out bb); clear ss bb hr hs')
    | (go_at_call 28; refine (over_any tb i j _).mono ?_; rintro e W0 ⟨b1, b2, b3, rfl, p1, p2, p3, g1, g2, g3, bb⟩; have OV := Lib.hid (show OvC D S' tb R (wq l) b1 b2 b3 i j W0 W0 from ⟨p1.cell 0, p2.cell 0, p3.cell 0, SS.out.below bb, Below.refl _ _⟩); have B5 := Lib.hid (below_add B4.out bb B4.out.size); have CL5 := Lib.hid (CL4.out.below bb); have OW5 := Lib.hid (owns_below OW4.out bb); have Z5 := Lib.hid bb.size; clear p1 p2 p3 g1 g2 g3 bb))
  have hbl3 := CL3.out.lt
  have hg3 := own_lt7 OW3.out (g := g0) rfl
  have hS' : ∀ k, S' k → k < W0.heap.size ∧ ¬ (k = bl ∨ k = g0) := fun k hk => by
    have h1 := HS.out k hk
    have h2 := Z5.out
    have h5 := HG0.out
    refine ⟨by omega, fun e => ?_⟩
    rcases h1.1 with h3 | h3
    · have := HLT.out k h3; omega
    · omega
  have HSS := Lib.hid hS'
  have HLN := Lib.hid (show (w.heap.size ≤ g0 ∧ g0 < bl) ∧ bl < W0.heap.size from ⟨HG0.out, CL5.out.lt⟩)
  have hlR : Wc.ln (R.el Wc) = l.length := by rw [← HR.out.1, flat_len]; rfl
  have HRL := Lib.hid (show j ≤ Wc.ln (R.el Wc) ∧ Wc.ln (R.el Wc) ≤ 4000000000 ∧ (R.el Wc).length ≤ 100000 ∧ Wc.ln (R.el Wc) ≤ 60000 from ⟨by rw [hlR]; exact HIJ.out.2, by rw [hlR]; have := HLL.out; omega, Nat.le_trans (len_flat HR.out.2) (by rw [HR.out.1]; have := HLL.out; omega), by rw [hlR]; exact HLL.out⟩)
  have HI0 := Lib.hid (show ApO (D := D) W0 w.heap.size bl (fun k => k = bl ∨ k = g0) [] (.slice (some ⟨g0, 0, none⟩) 0 m0) [] W0 from ⟨CL5.out, ⟨OW5.out, by simp⟩, rfl, Off.refl _ _, fun g hg => by cases hg; exact .inl (.inr rfl)⟩)
  obtain ⟨B0, hB0⟩ : ∃ b, w.heap.size = b := ⟨_, rfl⟩
  have HBB := Lib.hid hB0
  have HB5 := Lib.hid (show B0 ≤ W0.heap.size by rw [← hB0]; exact B5.out.size)
  rw [hB0] at HI0 HLN
  clear hS' hbl3 hg3 hlR CL3 CL4 OW3 OW4 B1 B2 B3 B4 SS HRE HRD HO2 HG0 hB0 CL5 OW5
  refine (wpIn_wide (n := 9)).1 ?_
  refine act_gen fun T hT => ?_
  refine wpIn_rangeFunc_ownH (α := NCk D 60000) (encs := fun x => #[cvs x.c]) (Kp := KpN W0.heap.size (fun k => k = bl ∨ k = g0)) (S := fun ys => flatN ys = ptc (R.el Wc) (i : Nat) (j : Nat)) (Sp := fun _ => True) (N := (R.el Wc).length) (w0 := W0) rfl (by decide)
    (gf := 40) (lb := #[.pointer (some ⟨b1, 0, none⟩), .pointer (some ⟨b2, 0, none⟩), .pointer (some ⟨b3, 0, none⟩)]) (by rw [← hT]; rfl) trivial (enters_of Try.func40 (by kernel_rfl) rfl) ?seq (fun h k => h.trans k) ?kb (Below.refl _ _) (fun _ => rfl)
    (fun pre W => ∃ v ss, ApO W0 B0 bl (fun k => k = bl ∨ k = g0) pre v ss W)
    (fun c _ W => False)
    (fun pre A B' row ⟨v, zs, h⟩ hg hr => ⟨v, zs, h.grown hg hr⟩)
    (fun c pre A B' row h hg hr => h.elim)
    ⟨_, _, HI0.out⟩
    (fun x a' W => ∃ Bx, W0.heap.size ≤ Bx ∧ Cb Bx 61 (krow x.c) W ∧ a' = { tmps := (T.tmps.setIfInBounds 27 (cvs x.c)).setIfInBounds 10 (.pointer (some ⟨Bx, 0, none⟩)), defers := [] })
    (fun x a' _ X Y row hs hg hr => by obtain ⟨Bx, h1, h2, h3⟩ := hs; exact ⟨Bx, h1, cb_grown h2 hg (fun r e => (hr r e).2), h3⟩)
    ?assign ?body ?done ?stop
  case seq =>
    intro ln J Jx W hW hJ hJx hY h0
    have HOW := OV.out
    refine callsIn_wide.2 ((over1_any (tb := tb) (Q := wq l) (n0 := W0.heap.size) (N := (R.el Wc).length) (X := fun k => k = bl ∨ k = g0) (S := S') (J := J) (Jx := Jx) 7 (fun k hk => by have := HLN.out; omega) (fun k hk => HSS.out k hk) (fun pre A A' hA hb => hJ pre A A' none hA ⟨hb.os, hb.tape, hb.output, hb.size, fun k hk _ => hb.block k hk⟩ (fun r e => by cases e)) hY R b1 b2 b3 i j HIJ.out.1 HRL.out.1 HRL.out.2.1 HRL.out.2.2.2 (Nat.le_refl _) W ?_ hW.size h0).mono ?_)
    · have := HOW.below hW
      exact ⟨this.c1, this.c2, this.c3, this.t, Below.refl _ _⟩
    · rintro e W' ⟨h1, ⟨q, h2, h3⟩ | ⟨q, h2⟩⟩
      · exact ⟨h1, .inl ⟨q, h2, h3⟩⟩
      · exact ⟨h1, .inr ⟨q, trivial, h2⟩⟩
  case kb =>
    intro W k o o' hk ho h1 h2
    exact kpn_putObj W hk ho h1
  case assign =>
    rintro ln pre x W K ⟨v, zs, hI⟩ hK
    subst hT
    have hxl := xc_size x.c
    have V4 := Lib.hid (cb_new W 61 czr)
    refine regionIn_of_plain (fun _ _ h => h) rfl ?_
    go_wp2_with (refine wpList_store_row rfl 61 (.tmp 10) (.tmp 27) rfl W.heap.size (krow x.c) rfl rfl _ _ V4.out (xinfo hxl) (by rw [hxl]; exact xz_size) (krow_one _) ?_)
    have hb : Below W.heap.size W ((W.alloc (.cells czr 61)).setRow W.heap.size (krow x.c)) := below_row ((Below.refl _ W).alloc (Nat.le_refl _) _) (Nat.le_refl _)
    exact hK _ _ ((keeps_off (S := fun _ => False) (Off.of_below hb) (fun k h => h.elim)).from _) (KpN.of_below hb) ⟨v, zs, hI.below hb⟩ ⟨W.heap.size, hI.off.size, V4.out.set _, rfl⟩
  case body =>
    rintro ln pre x a' W hln ⟨r, hr⟩ ⟨v0, ss0, hI⟩ ⟨Bx, hBx, hcx, rfl⟩ hlt
    subst hT
    have hblk := OV.out.t.blk x.d
    have hnb := x.b
    have hpre : pre.length < 100000 := by have := HRL.out.2.2.1; omega
    have hfp := flatN_le pre
    have HST := Lib.hid (show InO W0 W B0 bl v0 pre x.c.d 0 v0 ss0 W from ⟨hI.c, hI.own, by rw [hI.is]; simp, Off.refl _ _, fun g hg => .inl hg⟩)
    have HEND := Lib.hid (fun (wr : World) (v : Value) (ss : List Sv) (k : InO W0 W B0 bl v0 pre x.c.d x.c.n v ss wr) => hI.next x k (.inl rfl))
    have HLO := Lib.hid hI.off.size
    have hax : Arow W x.c.d.v x.c.d.s := hblk.1.keep (fun k hk => hI.off.block k (hblk.2.2 k hk).2 (HSS.out k (hblk.2.2 k hk).1).2)
    have HAX := Lib.hid (show (∀ wr : World, Off (fun k => k = bl ∨ v0.ownBlock = some k) W wr → Arow wr x.c.d.v x.c.d.s) ∧ x.c.d.s.length ≤ 100000 from ⟨fun wr ho => hax.keep (fun k hk => ho.block k (Nat.lt_of_lt_of_le (hblk.2.2 k hk).2 hI.off.size) (fun hs => by
      have a1 := HSS.out k (hblk.2.2 k hk).1
      rcases hs with hs | hs
      · exact a1.2 (.inl hs)
      · rcases hI.blk k hs with q | q
        · exact a1.2 q
        · omega)), hblk.2.1⟩)
    have HFP := Lib.hid hfp
    have HPR := Lib.hid hpre
    have hvx : ∀ g, v0.ownBlock = some g → g ≠ bl ∧ g ≠ Bx := fun g hg => by
      have a1 := HLN.out
      constructor
      · intro e
        rcases hI.blk g hg with q | q
        · rcases q with q | q
          · obtain ⟨cur, hc⟩ := own_tag hI.own.row hg
            rw [e, show W.heap[bl]? = _ from hI.c] at hc
            injection hc with hc
            injection hc with _ e2 _
            exact absurd e2 (by decide)
          · omega
        · omega
      · intro e
        obtain ⟨cur, hc⟩ := own_tag hI.own.row hg
        rw [e, show W.heap[Bx]? = _ from hcx] at hc
        injection hc with hc
        injection hc with _ e2 _
        exact absurd e2 (by decide)
    have HVX := Lib.hid hvx
    have HBXL := Lib.hid (show Bx ≠ bl from fun e => by have := HLN.out; omega)
    have HBXW := Lib.hid hcx.lt
    obtain ⟨xc, hxc⟩ : ∃ xc : Ck, x.c = xc := ⟨_, rfl⟩
    rw [hxc] at HST HEND HAX hnb hcx ⊢
    obtain ⟨xd, hxd⟩ : ∃ xd : Sv, xc.d = xd := ⟨_, rfl⟩
    have HXD := Lib.hid (show (krow xc)[1]? = some xd.v from by rw [← hxd]; rfl)
    rw [hxd] at HST HEND HAX
    obtain ⟨n, hn⟩ : ∃ n, xc.n = n := ⟨_, rfl⟩
    have q0 : W.cell? ⟨Bx, 0, none⟩ = some (.int .i64 (n : Nat)) := (hcx.cell 0).trans (by rw [← hn]; rfl)
    rw [hn] at HEND hnb
    have HCX := Lib.hid hcx
    have HB0 := Lib.hid (show B0 ≤ W.heap.size by have := HB5.out; have := HLO.out; omega)
    have hn60 : n ≤ 60000 := hnb
    clear hI hblk hax hfp hpre hvx hcx hxc hxd hn hnb hlt
    refine wpIn_block ?_
    try simp only [List.setIfInBounds_toArray, List.set_cons_succ, List.set_cons_zero]
    gi_wp2
    gi_loopw [30] (fun s30 wr => ∃ (m : Nat) (v : Value) (ss : List Sv), m ≤ n ∧ s30 = .int .i64 m ∧ Hid (InO W0 W B0 bl v0 pre xd m v ss wr ∧ Cb Bx 61 (krow xc) wr)) (fun s30 _ => n - (intOf s30).toNat)
    case atStart => exact ⟨0, _, _, Nat.zero_le _, rfl, Lib.hid ⟨HST.out, HCX.out⟩⟩
    case round =>
      obtain ⟨m, v, ss, hm, rfl, HR⟩ := hrel
      rename_i wr
      by_cases hlt2 : m < n
      · obtain ⟨va, vc, hvv, -, -⟩ := own_shape HR.out.1.own.row
        subst hvv
        have hlen := congrArg List.length HR.out.1.is
        rw [List.length_map, List.length_append, List.length_replicate] at hlen
        have HSZ := Lib.hid (show ss.length ≤ 6000060000 by have := HFP.out; have := HPR.out; omega)
        have hoff := HR.out.1.off
        have HCP := Lib.hid (fun W1 (hb : Below wr.heap.size wr W1) => copy_any5 xd.v xd.s W1 ((HAX.out.1 wr hoff).below hb (Nat.le_refl _)) HAX.out.2)
        have HZO := Lib.hid HR.out.1.own
        have HNX := Lib.hid (show ¬ (Value.slice va ss.length vc).ownBlock = some Bx ∧ ¬ (Value.slice va ss.length vc).ownBlock = some bl ∧ ¬ Bx = bl from ⟨fun e => by
          rcases HR.out.1.blk _ e with q | q
          · exact (HVX.out _ q).2 rfl
          · have := HBXW.out; omega, fun e => by
          rcases HR.out.1.blk _ e with q | q
          · exact (HVX.out _ q).1 rfl
          · have := HLN.out; have := HLO.out; omega, HBXL.out⟩)
        have hbd := (Below.refl wr.heap.size wr).drew
        have K_0 := Lib.hid (HR.out.2.below hbd)
        have CL_0 := Lib.hid (HR.out.1.c.below hbd)
        have BB_0 := Lib.hid hbd
        have HB9 := Lib.hid (show B0 ≤ wr.heap.size by have := HB0.out; have := hoff.size; omega)
        clear HB0
        have HB0 := HB9
        have FIN := Lib.hid (fun (w5 : World) (hb : Below wr.heap.size wr w5) (ua : Option Addr) (uc : Nat) (ho : Own5 wr w5 (.slice ua xd.s.length uc) xd.s) (g6 cap6 : Nat) (w6 : World) => HR.out.1.next (w6 := w6) (by have := HLN.out; have := HLO.out; omega) (fun g hg => (HVX.out g hg).1) (by have := HLO.out; have := hoff.size; omega) hb ua uc ho g6 cap6)
        clear hlen hoff hbd HR
        gi_wp2
        refine drawnIn_of_plain (fun W1 => Cb Bx 61 (krow xc) W1) (fun _ _ h => h) rfl (by kernel_rfl) ?_
        refine h_val (i := 1) (v := .pointer (some ⟨Bx, 1, none⟩)) rfl (by kernel_rfl) (by kernel_rfl) (by kernel_rfl) (fun _ _ _ h => h) (by rfl) (fun wz hS => ?_) K_0.out ?_
        · skip
          go_simp
        go_frame
        refine h_val (i := 2) (v := xd.v) rfl (by kernel_rfl) (by kernel_rfl) (by kernel_rfl) (fun _ _ _ h => h) (by rfl) (fun wz hS => ?_) K_0.out ?_
        · skip
          have q1 : wz.cell? ⟨Bx, 1, none⟩ = some xd.v := (hS.cell 1).trans HXD.out
          go_simp
        go_frame
        refine h_all2 (i := 0) (j := 3) (by kernel_rfl) ?_ ?_
        · skip
          refine o_step rfl (by rfl) ?_
          have c1 : _ = some ((.slice va ss.length vc) : Value) := CL_0.out.cell 0
          refine wp_val (v := (.slice va ss.length vc)) (by go_simp) ?_
          clear c1
          refine ⟨K_0.out, ?_⟩
          go_frame
          refine h_all1 (i := 3) (by kernel_rfl) ?_
          refine o_call (f := 26) (args := #[xd.v]) rfl (by rfl) (by go_simp) ?_
          refine (HCP.out _ BB_0.out).mono ?_
          rintro e w5 ⟨u, rfl, ho, b5⟩
          obtain ⟨ua, uc, rfl, -, -⟩ := own_shape ho
          have HO := Lib.hid (show Own5 wr w5 (.slice ua xd.s.length uc) xd.s from owns_mono ho BB_0.out.size)
          have K_2 := Lib.hid (K_0.out.below b5)
          have CL_2 := Lib.hid (CL_0.out.below b5)
          have BB_2 := Lib.hid (below_add BB_0.out b5 BB_0.out.size)
          clear ho b5
          refine ⟨_, rfl, K_2.out, ?_⟩
          go_frame
          refine h_all1 (i := 4) (by kernel_rfl) ?_
          refine o_step rfl (by rfl) ?_
          refine wp_buildSliceL 22 33 1 _ rfl w5.heap.size rfl Try.underlying22 [(0, .slice ua xd.s.length uc)] rfl _ (built_sl _ _ _) ?_
          have K_3 := Lib.hid (K_2.out.alloc (.cells #[.slice ua xd.s.length uc] 33))
          have CL_3 := Lib.hid (CL_2.out.alloc (.cells #[.slice ua xd.s.length uc] 33))
          have HNB := Lib.hid (heap_alloc_new w5 (.cells #[.slice ua xd.s.length uc] 33))
          have HAB := Lib.hid (BB_2.out.alloc BB_2.out.size (.cells #[.slice ua xd.s.length uc] 33))
          refine ⟨K_3.out, ?_⟩
          go_frame
          refine h_all1 (i := 5) (by kernel_rfl) ?_
          refine o_step rfl (by rfl) ?_
          refine wp_append_lies _ (.tmp 32) (.tmp 36) 22 rfl B0 33 ie (.slice none 0 0) 1 24 Try.underlying22 hie hz hsz hby rfl (by decide) (.slice va ss.length vc) ss.length (Go.Proofs.Yteodfbkfpboehaa.fl svD ss) rfl (HZO.out.below HAB.out).row ⟨w5.heap.size, 0, none⟩ 1 1 [.slice ua xd.s.length uc] rfl rfl (World.news_of_block HNB.out) (fun u hu => by obtain rfl := List.mem_singleton.1 hu; rfl) (by decide) (by unfold maxLen; have := HSZ.out; omega) (by have := HSZ.out; omega) (by have := HAB.out.size; have := HB0.out; omega) _ rfl ?_
          intro g6 cap6 w6 ho6 hg6 ha6 hl6
          have HO6 := Lib.hid ho6
          have HG6 := Lib.hid hg6
          have HA6 := Lib.hid ha6
          have K_4 := Lib.hid (show Cb Bx 61 (krow xc) w6 from (hg6.block Bx K_3.out.lt (fun e => HNX.out.1 e.symm)).trans K_3.out)
          have CL_4 := Lib.hid (show Cb bl 22 #[(.slice va ss.length vc)] w6 from (hg6.block bl CL_3.out.lt (fun e => HNX.out.2.1 e.symm)).trans CL_3.out)
          clear ho6 hg6 ha6 hl6
          refine ⟨K_4.out, ?_⟩
          go_frame
          refine h_all1 (i := 6) (by kernel_rfl) ?_
          refine o_step rfl (by rfl) ?_
          have c5 : w6.cell? ⟨bl, 0, none⟩ = some ((.slice va ss.length vc)) := CL_4.out.cell 0
          have f5 := CL_4.out.frozen 0
          refine wp_skip (w' := w6.setCell ⟨bl, 0, none⟩ (.slice (some ⟨g6, 0, none⟩) (ss.length + 1) cap6)) (by go_simp) ?_
          have oo5 := Off.of_grown (S := fun k => k = bl) (grown_set (w := w6) (g := bl) (o := 0) (.slice (some ⟨g6, 0, none⟩) (ss.length + 1) cap6)) (fun g hg => by cases hg; rfl)
          have KE := Lib.hid (K_4.out.off oo5 HNX.out.2.2)
          clear c5 f5 oo5
          refine ⟨KE.out, ?_⟩
          go_frame
          refine h_done (by kernel_rfl) ?_
          have hfin := FIN.out _ BB_2.out ua uc HO.out g6 cap6 w6 HO6.out HG6.out HA6.out CL_4.out
          have HFIN := Lib.hid (And.intro hfin KE.out)
          clear hfin
          gi_wp2
          go_roundw
          case rel => exact ⟨m + 1, _, _, hlt2, by go_num, Lib.hid HFIN.out⟩
          case measure => simp only [intOf]; omega
        · skip
          refine o_call (f := 26) (args := #[xd.v]) rfl (by rfl) (by go_simp) ?_
          refine (HCP.out _ BB_0.out).mono ?_
          rintro e w5 ⟨u, rfl, ho, b5⟩
          obtain ⟨ua, uc, rfl, -, -⟩ := own_shape ho
          have HO := Lib.hid (show Own5 wr w5 (.slice ua xd.s.length uc) xd.s from owns_mono ho BB_0.out.size)
          have K_6 := Lib.hid (K_0.out.below b5)
          have CL_6 := Lib.hid (CL_0.out.below b5)
          have BB_6 := Lib.hid (below_add BB_0.out b5 BB_0.out.size)
          clear ho b5
          refine ⟨_, rfl, K_6.out, ?_⟩
          go_frame
          refine h_all2 (i := 0) (j := 4) (by kernel_rfl) ?_ ?_
          · skip
            refine o_step rfl (by rfl) ?_
            have c7 : _ = some ((.slice va ss.length vc) : Value) := CL_6.out.cell 0
            refine wp_val (v := (.slice va ss.length vc)) (by go_simp) ?_
            clear c7
            refine ⟨K_6.out, ?_⟩
            go_frame
            refine h_all1 (i := 4) (by kernel_rfl) ?_
            refine o_step rfl (by rfl) ?_
            refine wp_buildSliceL 22 33 1 _ rfl w5.heap.size rfl Try.underlying22 [(0, .slice ua xd.s.length uc)] rfl _ (built_sl _ _ _) ?_
            have K_8 := Lib.hid (K_6.out.alloc (.cells #[.slice ua xd.s.length uc] 33))
            have CL_8 := Lib.hid (CL_6.out.alloc (.cells #[.slice ua xd.s.length uc] 33))
            have HNB := Lib.hid (heap_alloc_new w5 (.cells #[.slice ua xd.s.length uc] 33))
            have HAB := Lib.hid (BB_6.out.alloc BB_6.out.size (.cells #[.slice ua xd.s.length uc] 33))
            refine ⟨K_8.out, ?_⟩
            go_frame
            refine h_all1 (i := 5) (by kernel_rfl) ?_
            refine o_step rfl (by rfl) ?_
            refine wp_append_lies _ (.tmp 32) (.tmp 36) 22 rfl B0 33 ie (.slice none 0 0) 1 24 Try.underlying22 hie hz hsz hby rfl (by decide) (.slice va ss.length vc) ss.length (Go.Proofs.Yteodfbkfpboehaa.fl svD ss) rfl (HZO.out.below HAB.out).row ⟨w5.heap.size, 0, none⟩ 1 1 [.slice ua xd.s.length uc] rfl rfl (World.news_of_block HNB.out) (fun u hu => by obtain rfl := List.mem_singleton.1 hu; rfl) (by decide) (by unfold maxLen; have := HSZ.out; omega) (by have := HSZ.out; omega) (by have := HAB.out.size; have := HB0.out; omega) _ rfl ?_
            intro g6 cap6 w6 ho6 hg6 ha6 hl6
            have HO6 := Lib.hid ho6
            have HG6 := Lib.hid hg6
            have HA6 := Lib.hid ha6
            have K_9 := Lib.hid (show Cb Bx 61 (krow xc) w6 from (hg6.block Bx K_8.out.lt (fun e => HNX.out.1 e.symm)).trans K_8.out)
            have CL_9 := Lib.hid (show Cb bl 22 #[(.slice va ss.length vc)] w6 from (hg6.block bl CL_8.out.lt (fun e => HNX.out.2.1 e.symm)).trans CL_8.out)
            clear ho6 hg6 ha6 hl6
            refine ⟨K_9.out, ?_⟩
            go_frame
            refine h_all1 (i := 6) (by kernel_rfl) ?_
            refine o_step rfl (by rfl) ?_
            have c10 : w6.cell? ⟨bl, 0, none⟩ = some ((.slice va ss.length vc)) := CL_9.out.cell 0
            have f10 := CL_9.out.frozen 0
            refine wp_skip (w' := w6.setCell ⟨bl, 0, none⟩ (.slice (some ⟨g6, 0, none⟩) (ss.length + 1) cap6)) (by go_simp) ?_
            have oo10 := Off.of_grown (S := fun k => k = bl) (grown_set (w := w6) (g := bl) (o := 0) (.slice (some ⟨g6, 0, none⟩) (ss.length + 1) cap6)) (fun g hg => by cases hg; rfl)
            have KE := Lib.hid (K_9.out.off oo10 HNX.out.2.2)
            clear c10 f10 oo10
            refine ⟨KE.out, ?_⟩
            go_frame
            refine h_done (by kernel_rfl) ?_
            have hfin := FIN.out _ BB_6.out ua uc HO.out g6 cap6 w6 HO6.out HG6.out HA6.out CL_9.out
            have HFIN := Lib.hid (And.intro hfin KE.out)
            clear hfin
            gi_wp2
            go_roundw
            case rel => exact ⟨m + 1, _, _, hlt2, by go_num, Lib.hid HFIN.out⟩
            case measure => simp only [intOf]; omega
          · skip
            refine o_step rfl (by rfl) ?_
            refine wp_buildSliceL 22 33 1 _ rfl w5.heap.size rfl Try.underlying22 [(0, .slice ua xd.s.length uc)] rfl _ (built_sl _ _ _) ?_
            have K_11 := Lib.hid (K_6.out.alloc (.cells #[.slice ua xd.s.length uc] 33))
            have CL_11 := Lib.hid (CL_6.out.alloc (.cells #[.slice ua xd.s.length uc] 33))
            have HNB := Lib.hid (heap_alloc_new w5 (.cells #[.slice ua xd.s.length uc] 33))
            have HAB := Lib.hid (BB_6.out.alloc BB_6.out.size (.cells #[.slice ua xd.s.length uc] 33))
            refine ⟨K_11.out, ?_⟩
            go_frame
            refine h_all1 (i := 0) (by kernel_rfl) ?_
            refine o_step rfl (by rfl) ?_
            have c12 : _ = some ((.slice va ss.length vc) : Value) := CL_11.out.cell 0
            refine wp_val (v := (.slice va ss.length vc)) (by go_simp) ?_
            clear c12
            refine ⟨K_11.out, ?_⟩
            go_frame
            refine h_all1 (i := 5) (by kernel_rfl) ?_
            refine o_step rfl (by rfl) ?_
            refine wp_append_lies _ (.tmp 32) (.tmp 36) 22 rfl B0 33 ie (.slice none 0 0) 1 24 Try.underlying22 hie hz hsz hby rfl (by decide) (.slice va ss.length vc) ss.length (Go.Proofs.Yteodfbkfpboehaa.fl svD ss) rfl (HZO.out.below HAB.out).row ⟨w5.heap.size, 0, none⟩ 1 1 [.slice ua xd.s.length uc] rfl rfl (World.news_of_block HNB.out) (fun u hu => by obtain rfl := List.mem_singleton.1 hu; rfl) (by decide) (by unfold maxLen; have := HSZ.out; omega) (by have := HSZ.out; omega) (by have := HAB.out.size; have := HB0.out; omega) _ rfl ?_
            intro g6 cap6 w6 ho6 hg6 ha6 hl6
            have HO6 := Lib.hid ho6
            have HG6 := Lib.hid hg6
            have HA6 := Lib.hid ha6
            have K_13 := Lib.hid (show Cb Bx 61 (krow xc) w6 from (hg6.block Bx K_11.out.lt (fun e => HNX.out.1 e.symm)).trans K_11.out)
            have CL_13 := Lib.hid (show Cb bl 22 #[(.slice va ss.length vc)] w6 from (hg6.block bl CL_11.out.lt (fun e => HNX.out.2.1 e.symm)).trans CL_11.out)
            clear ho6 hg6 ha6 hl6
            refine ⟨K_13.out, ?_⟩
            go_frame
            refine h_all1 (i := 6) (by kernel_rfl) ?_
            refine o_step rfl (by rfl) ?_
            have c14 : w6.cell? ⟨bl, 0, none⟩ = some ((.slice va ss.length vc)) := CL_13.out.cell 0
            have f14 := CL_13.out.frozen 0
            refine wp_skip (w' := w6.setCell ⟨bl, 0, none⟩ (.slice (some ⟨g6, 0, none⟩) (ss.length + 1) cap6)) (by go_simp) ?_
            have oo14 := Off.of_grown (S := fun k => k = bl) (grown_set (w := w6) (g := bl) (o := 0) (.slice (some ⟨g6, 0, none⟩) (ss.length + 1) cap6)) (fun g hg => by cases hg; rfl)
            have KE := Lib.hid (K_13.out.off oo14 HNX.out.2.2)
            clear c14 f14 oo14
            refine ⟨KE.out, ?_⟩
            go_frame
            refine h_done (by kernel_rfl) ?_
            have hfin := FIN.out _ BB_6.out ua uc HO.out g6 cap6 w6 HO6.out HG6.out HA6.out CL_13.out
            have HFIN := Lib.hid (And.intro hfin KE.out)
            clear hfin
            gi_wp2
            go_roundw
            case rel => exact ⟨m + 1, _, _, hlt2, by go_num, Lib.hid HFIN.out⟩
            case measure => simp only [intOf]; omega
      · obtain rfl : m = n := by omega
        have FIN := Lib.hid (HEND.out _ _ _ HR.out.1)
        gi_wp2
        exact FIN.out
  case stop =>
    rintro D9 c pre W hD _ h hDW
    exact h.elim
  case done =>
    rintro D9 ys W hD hS ⟨v, ss, hI⟩ hDW
    subst hT
    have hfl : ss.map Sv.s = part l (i : Nat) (j : Nat) := by rw [hI.is, hS, ptc_flat, HR.out.1]
    have HFL := Lib.hid hfl
    obtain ⟨va, vc, hvv, -, -⟩ := own_shape hI.own.row
    subst hvv
    have c0 := hI.c.cell 0
    have hG := grownBy_putObj' W D9 (.deferred none)
    have go := hI.own.grown hG (fun r e => by cases e; exact ⟨_, hDW, rfl⟩)
    have hb0 := HBB.out
    have a1 := HLN.out
    have gb : Below w.heap.size w (W.putObj D9 (.deferred none)) := by
      have o1 : Off (fun k => (k = bl ∨ k = g0) ∨ W0.heap.size ≤ k) W0 (W.putObj D9 (.deferred none)) := ((hI.off.mono (S' := fun k => (k = bl ∨ k = g0) ∨ W0.heap.size ≤ k) (fun k hk => .inl hk)).seq (Off.of_grown hG (fun g hg => by cases hg; exact .inr hD)))
      refine B5.out.trans (o1.below (fun k hk => ?_) B5.out.size)
      have := B5.out.size
      rcases hk with (rfl | rfl) | hk <;> omega
    have GO := Lib.hid (go.mono (B' := w.heap.size) (C' := w.heap.size) (by omega) B5.out.size)
    have GB := Lib.hid gb
    have HDW := Lib.hid hDW
    obtain ⟨sn, hsn⟩ : ∃ n, ss.length = n := ⟨_, rfl⟩
    rw [hsn] at c0 GO
    clear hI hS hD hDW hfl hG go gb hsn hb0 a1
    gi_wp2
    go_wp2
    refine ⟨by simp, .inl ⟨_, _, rfl, run_takeDeferred HDW.out, ?_⟩⟩
    refine ⟨.tuple #[.slice va sn vc, .int .i64 0], ?_, .slice va sn vc, ss, rfl, GO.out, HFL.out, GB.out⟩
    simp [results, Try.f10, go_sem]
end
end Go.Proofs.Yteodfbkfpboehaa
