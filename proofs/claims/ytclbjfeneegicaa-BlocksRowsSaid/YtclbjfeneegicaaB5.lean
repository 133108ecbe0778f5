
import Derived.Test.YtclbjfeneegicaaB4
import Derived.Laws.OwnMore
/- B5: put -/
namespace Go.Proofs.Ytclbjfeneegicaa
open Go.RowKit
set_option linter.unusedVariables false
set_option maxRecDepth 100000

/-- What a region of put reads: what there was. -/
def PuC (W W' : World) : Prop := Below W.heap.size W W'
theorem PuC.start (W : World) : PuC W W.drew := (Below.refl _ _).drew
/-- A block's variable, by its cells. -/
@[reducible] def ZBox (b : Nat) (n : Int) (a : Option Addr) (l c : Nat) (w : World) : Prop := w.cell? ⟨b, 0, none⟩ = some (.int .i64 n) ∧ w.cell? ⟨b, 1, none⟩ = some (.slice a l c)
section
variable {b : Nat} {n : Int} {a : Option Addr} {l c : Nat} {w w' : World}
theorem ZBox.lt (h : ZBox b n a l c w) : b < w.heap.size := World.block_lt_of_cell? w _ h.1
theorem ZBox.below (h : ZBox b n a l c w) (hb : Below w.heap.size w w') : ZBox b n a l c w' := ⟨cell_below hb h.1, cell_below hb h.2⟩
theorem ZBox.grown {row : Option Nat} (h : ZBox b n a l c w) (hg : w.grownBy w' row) (hne : some b ≠ row) : ZBox b n a l c w' := ⟨hg.cell h.1 hne, hg.cell h.2 hne⟩
theorem zbox_of {t : TypeId} (h : Cb b t (bcs n a l c) w) : ZBox b n a l c w := ⟨h.cell 0, h.cell 1⟩
end
theorem zbox_new (w : World) (n : Int) (a : Option Addr) (l c : Nat) : ZBox w.heap.size n a l c (w.alloc (.cells (bcs n a l c) 34)) := ⟨(cb_new w _ _).cell 0, (cb_new w _ _).cell 1⟩
theorem bk_ones (n : Int) (a : Option Addr) (l c : Nat) : ∀ u ∈ ([.int .i64 n, .slice a l c] : List Value), u.oneCell' = true := by
  intro u hu
  simp only [List.mem_cons, List.not_mem_nil, or_false] at hu
  rcases hu with rfl | rfl <;> rfl
/-- The row of the call's own that has at least one block lies in one block. -/
theorem Zown.at {B : Nat} {w : World} {a : Option Addr} {n c : Nat} {zs : List Bz} (h : Zown B w (.slice a n c) zs) (h0 : 0 < zs.length) : n = zs.length ∧ ∃ g, a = some ⟨g, 0, none⟩ ∧ g < w.heap.size := by
  rcases h.row.2 with ⟨hn, h1⟩ | ⟨g, cap, cur, hv, hB, hg, -⟩
  · omega
  · injection hv with e1 e2 e3
    exact ⟨e2, g, e1, lt_of_heap hg⟩

set_option maxHeartbeats 2000000 in
theorem put_nil (B : Nat) (n : Int) (xa : Option Addr) (xc : Nat) (s : List Att) (w : World) (h : Zown B w (Value.slice none 0 0) []) (hx : Arow w (.slice xa s.length xc) s) (hB : B ≤ w.heap.size) (hs : s.length ≤ 1000) :
    Calls Try.prog 28 #[(Value.slice none 0 0), bv n xa s.length xc] w fun e w' => ∃ v' z, e = .returned v' ∧ z.b = ⟨n, s⟩ ∧ Zown B w' v' ([] ++ [z]) ∧ Off (fun k => ((Value.slice none 0 0)).ownBlock = some k) w w' ∧ ∀ q, v'.ownBlock = some q → ((Value.slice none 0 0)).ownBlock = some q ∨ w.heap.size ≤ q := by
  have HB1 := Lib.hid ((Below.refl w.heap.size w).alloc (Nat.le_refl _) (.cells (bcs n xa s.length xc) 34))
  have HX := Lib.hid (hx.below HB1.out (Nat.le_refl _))
  have CX1 := Lib.hid (zbox_new w n xa s.length xc)
  have HBS := Lib.hid (fun w6 (hb : Below (w.alloc (.cells (bcs n xa s.length xc) 34)).heap.size (w.alloc (.cells (bcs n xa s.length xc) 34)) w6) => (show B ≤ w6.heap.size from by have := hb.size; rw [World.size_alloc] at this; omega))
  have HOW := Lib.hid (fun w6 (hb : Below (w.alloc (.cells (bcs n xa s.length xc) 34)).heap.size (w.alloc (.cells (bcs n xa s.length xc) 34)) w6) => (h.below (HB1.out.trans (hb.mono HB1.out.size))))
  have HNE : Hid (some w.heap.size ≠ (Value.slice none 0 0).ownBlock) := Lib.hid (by simp [Value.ownBlock])
  obtain ⟨i0, hi, hz0, hz1, hz2⟩ := info_bk
  have HCP := Lib.hid (fun w6 (hb : Below (w.alloc (.cells (bcs n xa s.length xc) 34)).heap.size (w.alloc (.cells (bcs n xa s.length xc) 34)) w6) => copy_any _ s w6 (HX.out.below hb (Nat.le_refl _)) (by omega))
  obtain ⟨xl, hxl⟩ : ∃ n, s.length = n := ⟨_, rfl⟩
  rw [hxl] at HB1 HX CX1 HCP HOW HBS ⊢
  have HXL := Lib.hid hxl
  clear hxl hx hs h
  go_enter Try.func28, Try.ntmps28
  go_upto_region 2 with fail
  refine with_worldT (fun W => ZBox w.heap.size n xa xl xc W ∧ Below w.heap.size w W ∧ W = w.alloc (.cells (bcs n xa xl xc) 34)) ⟨CX1.out, HB1.out, rfl⟩ fun W1 hW1 => ?_
  have CX := Lib.hid hW1.1
  have HW1 := Lib.hid hW1.2.2
  rw [← hW1.2.2] at HB1 HCP HOW HBS HX
  clear hW1 CX1
  refine region_classw (C := PuC W1) (by kernel_rfl) (by kernel_rfl) (PuC.start W1) ?_
  repeat (first
    | (first
         | refine w_skip (by rfl) (by rfl) ?_
         | refine w_skipn (by rfl) (by rfl) ?_
       simp only [Act.put, List.setIfInBounds_toArray, List.set_cons_zero, List.set_cons_succ])
    | (first
         | refine w_val (v := ?_) (by rfl) (fun w9 hS => ?_) ?_
         | refine w_valg (v := ?_) (by rfl) (by rfl) (fun w9 hS => ?_) ?_
       rotate_left
       · skip
         go_simp
         try with_reducible rfl
       simp only [Act.put, List.setIfInBounds_toArray, List.set_cons_zero, List.set_cons_succ]))
  refine w_end ?_
  intro w5 hT
  have HT := Lib.hid (show Below W1.heap.size W1 w5 from hT)
  clear hT
  go_wp2_with fail
  have hdw : Below w5.heap.size w5 w5.drew := (Below.refl _ _).drew
  have CX5 := Lib.hid (CX.out.below (HT.out.trans (hdw.mono HT.out.size)))
  have HB5 := Lib.hid (HT.out.trans (hdw.mono HT.out.size))
  clear hdw
  have hx5 := CX5.out
  go_region_held3 (fun w' => ZBox w.heap.size n xa xl xc w') (first | assumption | trivial | exact hS6.below ((Below.refl _ _).alloc (Nat.le_refl _) _))
    (first
      | (go_at_call 26; (with_reducible refine (HCP.out _ HB5.out).mono ?_); rintro e w6 ⟨ca, cc, rfl, hco, hb6⟩; have hS6 := CX5.out.below hb6; have OW7 := Lib.hid (HOW.out _ (HB5.out.trans ((hb6.alloc hb6.size (.cells #[.int .i64 n, .slice ca xl cc] 34)).mono HB5.out.size))); have HB7 := Lib.hid ((hb6.alloc hb6.size (.cells #[.int .i64 n, .slice ca xl cc] 34))))
      | (refine step_append_lies _ (by rfl) (.tmp 34) (.tmp 41) 22 (by rfl) B 34 i0 (bv 0 none 0 0) 2 32 Try.underlying22 hi hz0 hz1 hz2 (by rfl) (by decide) (Value.slice none 0 0) 0 (fl bzC []) (by rfl) OW7.out.row ⟨w6.heap.size, 0, none⟩ 1 1 [.int .i64 n, .slice ca xl cc] (by rfl) (by rfl) (World.news_of_block (heap_alloc_new _ _)) (bk_ones _ _ _ _) (by decide) (by unfold maxLen; omega) (by omega) (HBS.out _ (HB5.out.trans (HB7.out.mono HB5.out.size))) _ rfl ?_; intro g cap w7 hown7 hgrow7 hat7 hlt7; have hS7 := (hS6.below ((Below.refl _ _).alloc (Nat.le_refl _) (.cells #[.int .i64 n, .slice ca xl cc] 34))).grown hgrow7 HNE.out))
  go_wp2_with fail
  go_ret
  have hxl := HXL.out
  subst hxl
  have hB7 := HB1.out.trans ((HB5.out.trans (HB7.out.mono HB5.out.size)).mono HB1.out.size)
  refine ⟨_, ⟨n, ca, cc, s⟩, rfl, rfl, Zown.more OW7.out hgrow7 ⟨n, ca, cc, s⟩ (owns_mono (owns_below hco ((Below.refl _ _).alloc (Nat.le_refl _) _)) (HBS.out _ HB5.out)) ?_, (Off.of_below hB7).seq (Off.of_grown hgrow7 (fun g hg => hg)), fun q hq => ?_⟩
  rotate_left
  · have hq2 : g = q := by injection hq
    subst hq2
    rcases hat7 with h | h
    · exact .inl h
    · exact .inr (by rw [h]; exact hB7.size)
  exact hown7
set_option maxHeartbeats 2000000 in
theorem put_other (B : Nat) (l0 : List Bz) (y : Bz) (g k cap : Nat) (n : Int) (xa : Option Addr) (xc : Nat) (s : List Att) (w : World) (h : Zown B w (Value.slice (some ⟨g, 0, none⟩) (k + 1) cap) (l0 ++ [y])) (hx : Arow w (.slice xa s.length xc) s) (hB : B ≤ w.heap.size) (hs : s.length ≤ 1000) (hk : l0.length = k) (hz : k ≤ 100000) (hns : ¬ y.s = s) :
    Calls Try.prog 28 #[(Value.slice (some ⟨g, 0, none⟩) (k + 1) cap), bv n xa s.length xc] w fun e w' => ∃ v' z, e = .returned v' ∧ z.b = ⟨n, s⟩ ∧ Zown B w' v' ((l0 ++ [y]) ++ [z]) ∧ Off (fun k => ((Value.slice (some ⟨g, 0, none⟩) (k + 1) cap)).ownBlock = some k) w w' ∧ ∀ q, v'.ownBlock = some q → ((Value.slice (some ⟨g, 0, none⟩) (k + 1) cap)).ownBlock = some q ∨ w.heap.size ≤ q := by
  have HB1 := Lib.hid ((Below.refl w.heap.size w).alloc (Nat.le_refl _) (.cells (bcs n xa s.length xc) 34))
  have HX := Lib.hid (hx.below HB1.out (Nat.le_refl _))
  have CX1 := Lib.hid (zbox_new w n xa s.length xc)
  have HBS := Lib.hid (fun w6 (hb : Below (w.alloc (.cells (bcs n xa s.length xc) 34)).heap.size (w.alloc (.cells (bcs n xa s.length xc) 34)) w6) => (show B ≤ w6.heap.size from by have := hb.size; rw [World.size_alloc] at this; omega))
  have HOW := Lib.hid (fun w6 (hb : Below (w.alloc (.cells (bcs n xa s.length xc) 34)).heap.size (w.alloc (.cells (bcs n xa s.length xc) 34)) w6) => (h.below (HB1.out.trans (hb.mono HB1.out.size))))
  have HNS := Lib.hid hns
  have HLN := Lib.hid (show (l0 ++ [y]).length = k + 1 by rw [List.length_append, hk]; rfl)
  have HNE : Hid (some w.heap.size ≠ (Value.slice (some ⟨g, 0, none⟩) (k + 1) cap).ownBlock) := Lib.hid (by
    have := h.at (by simp)
    obtain ⟨-, g', e, hlt⟩ := this
    injection e with e
    injection e with e
    subst e
    intro e
    injection e with e
    exact absurd e (Nat.ne_of_gt hlt))
  have HY := Lib.hid (show w.cell? ⟨g, l0.length * 2, none⟩ = some (.int .i64 y.n) ∧ w.cell? ⟨g, l0.length * 2 + 1, none⟩ = some (.slice y.a y.s.length y.c) ∧ Arow w (.slice y.a y.s.length y.c) y.s from by
    obtain ⟨b, off, e, -, -, -, -, hat⟩ := h.zrow.opn (by simp)
    rcases h.row.2 with ⟨hn, h1⟩ | ⟨g', cap', cur, hv, -⟩
    · simp at h1
    · injection hv with e1
      rw [e] at e1
      injection e1 with e1
      injection e1 with e1 e2
      injection e with e
      injection e with e3 e4
      subst e3 e4
      have := hat l0.length (by simp)
      simpa using this)
  obtain ⟨i0, hi, hz0, hz1, hz2⟩ := info_bk
  have HCP := Lib.hid (fun w6 (hb : Below (w.alloc (.cells (bcs n xa s.length xc) 34)).heap.size (w.alloc (.cells (bcs n xa s.length xc) 34)) w6) => copy_any _ s w6 (HX.out.below hb (Nat.le_refl _)) (by omega))
  obtain ⟨xl, hxl⟩ : ∃ n, s.length = n := ⟨_, rfl⟩
  rw [hxl] at HB1 HX CX1 HCP HOW HBS ⊢
  have HXL := Lib.hid hxl
  clear hxl hx hs h
  rw [hk] at HY
  have i1 : (k : Int) ≤ 100000 := by omega
  have i0' : (0 : Int) ≤ (k : Int) := by omega
  have e1 : (((k + 1 : Nat) : Int)) = (k : Int) + 1 := by omega
  have e2 : IntKind.i64.wrap (k : Int) = (k : Int) := by rw [IntKind.wrap_i64]; omega
  have hi1 : (k : Int) < (k : Int) + 1 := by omega
  have hge : decide ((0 : Int) ≤ (k : Int)) = true := decide_eq_true i0'
  go_enter Try.func28, Try.ntmps28
  go_upto_region 2 with fail
  refine with_worldT (fun W => ZBox w.heap.size n xa xl xc W ∧ Below w.heap.size w W ∧ W = w.alloc (.cells (bcs n xa xl xc) 34)) ⟨CX1.out, HB1.out, rfl⟩ fun W1 hW1 => ?_
  have CX := Lib.hid hW1.1
  have HW1 := Lib.hid hW1.2.2
  rw [← hW1.2.2] at HB1 HCP HOW HBS HX
  have C3 := Lib.hid (show W1.cell? ⟨g, k * 2 + 1, none⟩ = some (.slice y.a y.s.length y.c) from cell_below HB1.out HY.out.2.1)
  have KS := Lib.hid (fun w9 (hS : PuC W1 w9) => (same_any5 _ _ y.s s w9 (HY.out.2.2.below (HB1.out.trans (hS.mono HB1.out.size)) (Nat.le_refl _)) (HX.out.below hS (Nat.le_refl _))).mono fun e w' (h : _ ∧ _) => (⟨by rw [h.1, decide_eq_false HNS.out], (show Below _ _ _ from hS).trans (h.2.mono (show Below _ _ _ from hS).size)⟩ : e = .returned (.bool false) ∧ PuC W1 w'))
  clear hW1 CX1
  refine region_classw (C := PuC W1) (by kernel_rfl) (by kernel_rfl) (PuC.start W1) ?_
  repeat (first
    | (first
         | refine w_skip (by rfl) (by rfl) ?_
         | refine w_skipn (by rfl) (by rfl) ?_
       simp only [Act.put, List.setIfInBounds_toArray, List.set_cons_zero, List.set_cons_succ])
    | (first
         | refine w_val (v := ?_) (by rfl) (fun w9 hS => ?_) ?_
         | refine w_valg (v := ?_) (by rfl) (by rfl) (fun w9 hS => ?_) ?_
       rotate_left
       · have hB9 : Below W1.heap.size W1 w9 := hS
         obtain ⟨g1, g2⟩ := CX.out.below hB9
         have g3 := cell_below hB9 C3.out
         go_simp
         try with_reducible rfl
       simp only [Act.put, List.setIfInBounds_toArray, List.set_cons_zero, List.set_cons_succ])
    | (first
         | refine w_call (by rfl) (fun w9 hS => ?_) KS.out ?_
         | refine w_callg (by rfl) (by rfl) (fun w9 hS => ?_) KS.out ?_
       · have hB9 : Below W1.heap.size W1 w9 := hS
         obtain ⟨g1, g2⟩ := CX.out.below hB9
         have g3 := cell_below hB9 C3.out
         go_simp
       simp only [Act.put, List.setIfInBounds_toArray, List.set_cons_zero, List.set_cons_succ]))
  refine w_end ?_
  intro w5 hT
  have HT := Lib.hid (show Below W1.heap.size W1 w5 from hT)
  clear hT
  go_wp2_with fail
  have hdw : Below w5.heap.size w5 w5.drew := (Below.refl _ _).drew
  have CX5 := Lib.hid (CX.out.below (HT.out.trans (hdw.mono HT.out.size)))
  have HB5 := Lib.hid (HT.out.trans (hdw.mono HT.out.size))
  clear hdw
  have hx5 := CX5.out
  go_region_held3 (fun w' => ZBox w.heap.size n xa xl xc w') (first | assumption | trivial | exact hS6.below ((Below.refl _ _).alloc (Nat.le_refl _) _))
    (first
      | (go_at_call 26; (with_reducible refine (HCP.out _ HB5.out).mono ?_); rintro e w6 ⟨ca, cc, rfl, hco, hb6⟩; have hS6 := CX5.out.below hb6; have OW7 := Lib.hid (HOW.out _ (HB5.out.trans ((hb6.alloc hb6.size (.cells #[.int .i64 n, .slice ca xl cc] 34)).mono HB5.out.size))); have HB7 := Lib.hid ((hb6.alloc hb6.size (.cells #[.int .i64 n, .slice ca xl cc] 34))))
      | (refine step_append_lies _ (by rfl) (.tmp 34) (.tmp 41) 22 (by rfl) B 34 i0 (bv 0 none 0 0) 2 32 Try.underlying22 hi hz0 hz1 hz2 (by rfl) (by decide) (Value.slice (some ⟨g, 0, none⟩) (k + 1) cap) (k + 1) (fl bzC (l0 ++ [y])) (by rfl) (by have := OW7.out.row; rw [HLN.out] at this; exact this) ⟨w6.heap.size, 0, none⟩ 1 1 [.int .i64 n, .slice ca xl cc] (by rfl) (by rfl) (World.news_of_block (heap_alloc_new _ _)) (bk_ones _ _ _ _) (by decide) (by unfold maxLen; omega) (by omega) (HBS.out _ (HB5.out.trans (HB7.out.mono HB5.out.size))) _ rfl ?_; intro g cap w7 hown7 hgrow7 hat7 hlt7; have hS7 := (hS6.below ((Below.refl _ _).alloc (Nat.le_refl _) (.cells #[.int .i64 n, .slice ca xl cc] 34))).grown hgrow7 HNE.out))
  go_wp2_with fail
  go_ret
  have hxl := HXL.out
  subst hxl
  have hB7 := HB1.out.trans ((HB5.out.trans (HB7.out.mono HB5.out.size)).mono HB1.out.size)
  refine ⟨_, ⟨n, ca, cc, s⟩, rfl, rfl, Zown.more OW7.out hgrow7 ⟨n, ca, cc, s⟩ (owns_mono (owns_below hco ((Below.refl _ _).alloc (Nat.le_refl _) _)) (HBS.out _ HB5.out)) ?_, (Off.of_below hB7).seq (Off.of_grown hgrow7 (fun g hg => hg)), fun q hq => ?_⟩
  rotate_left
  · have hq2 : g = q := by injection hq
    subst hq2
    rcases hat7 with h | h
    · exact .inl h
    · exact .inr (by rw [h]; exact hB7.size)
  exact (by rw [HLN.out]; exact hown7)
set_option maxHeartbeats 2000000 in
theorem put_same (B : Nat) (l0 : List Bz) (y : Bz) (g k cap : Nat) (n : Int) (xa : Option Addr) (xc : Nat) (s : List Att) (w : World) (h : Zown B w (Value.slice (some ⟨g, 0, none⟩) (k + 1) cap) (l0 ++ [y])) (hx : Arow w (.slice xa s.length xc) s) (hB : B ≤ w.heap.size) (hs : s.length ≤ 1000) (hk : l0.length = k) (hz : k ≤ 100000) (hns : y.s = s) (hy : 0 ≤ y.n) (hy1 : y.n ≤ 9223372036854775807) (hn : 0 < n) (hn1 : n ≤ 9223372036854775807) :
    Calls Try.prog 28 #[(Value.slice (some ⟨g, 0, none⟩) (k + 1) cap), bv n xa s.length xc] w fun e w' => e = .returned (Value.slice (some ⟨g, 0, none⟩) (k + 1) cap) ∧ Zown B w' (Value.slice (some ⟨g, 0, none⟩) (k + 1) cap) (l0 ++ [⟨tog y.n n, y.a, y.c, y.s⟩]) ∧ Off (fun k => ((Value.slice (some ⟨g, 0, none⟩) (k + 1) cap)).ownBlock = some k) w w' := by
  have HB1 := Lib.hid ((Below.refl w.heap.size w).alloc (Nat.le_refl _) (.cells (bcs n xa s.length xc) 34))
  have HX := Lib.hid (hx.below HB1.out (Nat.le_refl _))
  have CX1 := Lib.hid (zbox_new w n xa s.length xc)
  have HBS := Lib.hid (fun w6 (hb : Below (w.alloc (.cells (bcs n xa s.length xc) 34)).heap.size (w.alloc (.cells (bcs n xa s.length xc) 34)) w6) => (show B ≤ w6.heap.size from by have := hb.size; rw [World.size_alloc] at this; omega))
  have HOW := Lib.hid (fun w6 (hb : Below (w.alloc (.cells (bcs n xa s.length xc) 34)).heap.size (w.alloc (.cells (bcs n xa s.length xc) 34)) w6) => (h.below (HB1.out.trans (hb.mono HB1.out.size))))
  have HNS := Lib.hid hns
  have HN := Lib.hid (show 0 ≤ y.n ∧ y.n ≤ 9223372036854775807 ∧ 0 ≤ n ∧ n ≤ 9223372036854775807 from ⟨hy, hy1, by omega, hn1⟩)
  clear hy hy1 hn hn1
  have HLN := Lib.hid (show (l0 ++ [y]).length = k + 1 by rw [List.length_append, hk]; rfl)
  have HNE : Hid (some w.heap.size ≠ (Value.slice (some ⟨g, 0, none⟩) (k + 1) cap).ownBlock) := Lib.hid (by
    have := h.at (by simp)
    obtain ⟨-, g', e, hlt⟩ := this
    injection e with e
    injection e with e
    subst e
    intro e
    injection e with e
    exact absurd e (Nat.ne_of_gt hlt))
  have HY := Lib.hid (show w.cell? ⟨g, l0.length * 2, none⟩ = some (.int .i64 y.n) ∧ w.cell? ⟨g, l0.length * 2 + 1, none⟩ = some (.slice y.a y.s.length y.c) ∧ Arow w (.slice y.a y.s.length y.c) y.s from by
    obtain ⟨b, off, e, -, -, -, -, hat⟩ := h.zrow.opn (by simp)
    rcases h.row.2 with ⟨hn, h1⟩ | ⟨g', cap', cur, hv, -⟩
    · simp at h1
    · injection hv with e1
      rw [e] at e1
      injection e1 with e1
      injection e1 with e1 e2
      injection e with e
      injection e with e3 e4
      subst e3 e4
      have := hat l0.length (by simp)
      simpa using this)
  obtain ⟨i0, hi, hz0, hz1, hz2⟩ := info_bk
  have HCP := Lib.hid (fun w6 (hb : Below (w.alloc (.cells (bcs n xa s.length xc) 34)).heap.size (w.alloc (.cells (bcs n xa s.length xc) 34)) w6) => copy_any _ s w6 (HX.out.below hb (Nat.le_refl _)) (by omega))
  obtain ⟨xl, hxl⟩ : ∃ n, s.length = n := ⟨_, rfl⟩
  rw [hxl] at HB1 HX CX1 HCP HOW HBS ⊢
  have HXL := Lib.hid hxl
  clear hxl hx hs h
  rw [hk] at HY
  have i1 : (k : Int) ≤ 100000 := by omega
  have i0' : (0 : Int) ≤ (k : Int) := by omega
  have e1 : (((k + 1 : Nat) : Int)) = (k : Int) + 1 := by omega
  have e2 : IntKind.i64.wrap (k : Int) = (k : Int) := by rw [IntKind.wrap_i64]; omega
  have hi1 : (k : Int) < (k : Int) + 1 := by omega
  have hge : decide ((0 : Int) ≤ (k : Int)) = true := decide_eq_true i0'
  go_enter Try.func28, Try.ntmps28
  go_upto_region 2 with fail
  refine with_worldT (fun W => ZBox w.heap.size n xa xl xc W ∧ Below w.heap.size w W ∧ W = w.alloc (.cells (bcs n xa xl xc) 34)) ⟨CX1.out, HB1.out, rfl⟩ fun W1 hW1 => ?_
  have CX := Lib.hid hW1.1
  have HW1 := Lib.hid hW1.2.2
  rw [← hW1.2.2] at HB1 HCP HOW HBS HX
  have C3 := Lib.hid (show W1.cell? ⟨g, k * 2 + 1, none⟩ = some (.slice y.a y.s.length y.c) from cell_below HB1.out HY.out.2.1)
  have KS := Lib.hid (fun w9 (hS : PuC W1 w9) => (same_any5 _ _ y.s s w9 (HY.out.2.2.below (HB1.out.trans (hS.mono HB1.out.size)) (Nat.le_refl _)) (HX.out.below hS (Nat.le_refl _))).mono fun e w' (h : _ ∧ _) => (⟨by rw [h.1, decide_eq_true HNS.out], (show Below _ _ _ from hS).trans (h.2.mono (show Below _ _ _ from hS).size)⟩ : e = .returned (.bool true) ∧ PuC W1 w'))
  clear hW1 CX1
  refine region_classw (C := PuC W1) (by kernel_rfl) (by kernel_rfl) (PuC.start W1) ?_
  repeat (first
    | (first
         | refine w_skip (by rfl) (by rfl) ?_
         | refine w_skipn (by rfl) (by rfl) ?_
       simp only [Act.put, List.setIfInBounds_toArray, List.set_cons_zero, List.set_cons_succ])
    | (first
         | refine w_val (v := ?_) (by rfl) (fun w9 hS => ?_) ?_
         | refine w_valg (v := ?_) (by rfl) (by rfl) (fun w9 hS => ?_) ?_
       rotate_left
       · have hB9 : Below W1.heap.size W1 w9 := hS
         obtain ⟨g1, g2⟩ := CX.out.below hB9
         have g3 := cell_below hB9 C3.out
         go_simp
         try with_reducible rfl
       simp only [Act.put, List.setIfInBounds_toArray, List.set_cons_zero, List.set_cons_succ])
    | (first
         | refine w_call (by rfl) (fun w9 hS => ?_) KS.out ?_
         | refine w_callg (by rfl) (by rfl) (fun w9 hS => ?_) KS.out ?_
       · have hB9 : Below W1.heap.size W1 w9 := hS
         obtain ⟨g1, g2⟩ := CX.out.below hB9
         have g3 := cell_below hB9 C3.out
         go_simp
       simp only [Act.put, List.setIfInBounds_toArray, List.set_cons_zero, List.set_cons_succ]))
  refine w_end ?_
  intro w5 hT
  have HT := Lib.hid (show Below W1.heap.size W1 w5 from hT)
  go_wp2_with fail
  refine h_start (S := fun W' => ZBox w.heap.size n xa xl xc W') (by kernel_rfl) ?_
  have hdw : Below w5.heap.size w5 w5.drew := (Below.refl _ _).drew
  have HB5 := Lib.hid (HT.out.trans (hdw.mono HT.out.size))
  have HSX := Lib.hid (CX.out.below HB5.out)
  clear hdw
  generalize w5.drew = w6 at *
  refine h_val (i := 0) (v := (Value.slice (some ⟨g, 0, none⟩) (k + 1) cap)) rfl (by kernel_rfl) (by kernel_rfl) (by kernel_rfl) (fun _ _ _ h => h) (by rfl) (fun wz hS => ?_) HSX.out ?_
  · go_simp
  go_frame
  refine h_val (i := 1) (v := .int .i64 (k : Int)) rfl (by kernel_rfl) (by kernel_rfl) (by kernel_rfl) (fun _ _ _ h => h) (by rfl) (fun wz hS => ?_) HSX.out ?_
  · go_simp
  go_frame
  refine h_val (i := 2) (v := (Value.slice (some ⟨g, 0, none⟩) (k + 1) cap)) rfl (by kernel_rfl) (by kernel_rfl) (by kernel_rfl) (fun _ _ _ h => h) (by rfl) (fun wz hS => ?_) HSX.out ?_
  · go_simp
  go_frame
  refine h_val (i := 3) (v := .int .i64 (k : Int)) rfl (by kernel_rfl) (by kernel_rfl) (by kernel_rfl) (fun _ _ _ h => h) (by rfl) (fun wz hS => ?_) HSX.out ?_
  · go_simp
  go_frame
  refine h_val (i := 4) (v := .pointer (some ⟨g, k * 2, none⟩)) rfl (by kernel_rfl) (by kernel_rfl) (by kernel_rfl) (fun _ _ _ h => h) (by rfl) (fun wz hS => ?_) HSX.out ?_
  · go_simp
  go_frame
  refine h_val (i := 5) (v := .pointer (some ⟨g, k * 2, none⟩)) rfl (by kernel_rfl) (by kernel_rfl) (by kernel_rfl) (fun _ _ _ h => h) (by rfl) (fun wz hS => ?_) HSX.out ?_
  · go_simp
  go_frame
  refine h_val (i := 7) (v := .pointer (some ⟨w.heap.size, 0, none⟩)) rfl (by kernel_rfl) (by kernel_rfl) (by kernel_rfl) (fun _ _ _ h => h) (by rfl) (fun wz hS => ?_) HSX.out ?_
  · go_simp
  go_frame
  refine h_val (i := 8) (v := .int .i64 n) rfl (by kernel_rfl) (by kernel_rfl) (by kernel_rfl) (fun _ _ _ h => h) (by rfl) (fun wz hS => ?_) HSX.out ?_
  · (obtain ⟨q0, q1⟩ := hS; go_simp)
  go_frame
  have c6 : w6.cell? ⟨g, k * 2, none⟩ = some (.int .i64 y.n) := cell_below (HB1.out.trans (HB5.out.mono HB1.out.size)) HY.out.1
  refine h_all1 (i := 6) (by kernel_rfl) ?_
  refine o_step rfl (by rfl) ?_
  refine wp_val (v := .int .i64 y.n) (by go_simp) ?_
  refine ⟨HSX.out, ?_⟩
  go_frame
  refine h_all1 (i := 9) (by kernel_rfl) ?_
  refine o_call (f := 27) (args := #[.int .i64 y.n, .int .i64 n]) rfl (by rfl) (by go_simp) ?_
  refine (together_any y.n n _ HN.out.1 HN.out.2.1 HN.out.2.2.1 HN.out.2.2.2).mono ?_
  rintro e w7 ⟨rfl, rfl⟩
  refine ⟨_, rfl, HSX.out, ?_⟩
  go_frame
  refine h_val (i := 10) (v := .pointer (some ⟨g, k * 2, none⟩)) rfl (by kernel_rfl) (by kernel_rfl) (by kernel_rfl) (fun _ _ _ h => h) (by rfl) (fun wz hS => ?_) HSX.out ?_
  · go_simp
  go_frame
  refine h_val (i := 11) (v := .pointer (some ⟨g, k * 2, none⟩)) rfl (by kernel_rfl) (by kernel_rfl) (by kernel_rfl) (fun _ _ _ h => h) (by rfl) (fun wz hS => ?_) HSX.out ?_
  · go_simp
  go_frame
  have f6 : w7.frozen? ⟨g, k * 2, none⟩ = false := by
    have := (HOW.out _ HB5.out).row
    rw [HLN.out] at this
    exact this.frozenAt _
  refine h_all1 (i := 12) (by kernel_rfl) ?_
  refine o_step rfl (by rfl) ?_
  refine wp_skip (w' := w7.setCell ⟨g, k * 2, none⟩ (.int .i64 (tog y.n n))) (by go_simp) ?_
  have hO := Off.of_grown (S := fun k => (Value.slice (some ⟨g, 0, none⟩) (k + 1) cap).ownBlock = some k) (grown_set (w := w7) (g := g) (o := k * 2) (.int .i64 (tog y.n n))) (fun q hq => by cases hq; rfl)
  refine ⟨HSX.out.grown (grown_set (w := w7) (g := g) (o := k * 2) (.int .i64 (tog y.n n))) (fun e => HNE.out (by rw [e]; rfl)), ?_⟩
  go_frame
  refine h_done (by kernel_rfl) ?_
  go_wp2_with fail
  go_ret
  refine ⟨rfl, ?_, (Off.of_below (HB1.out.trans (HB5.out.mono HB1.out.size))).seq hO⟩
  subst hk
  exact Zown.set (HOW.out _ HB5.out) (tog y.n n)
end Go.Proofs.Ytclbjfeneegicaa
