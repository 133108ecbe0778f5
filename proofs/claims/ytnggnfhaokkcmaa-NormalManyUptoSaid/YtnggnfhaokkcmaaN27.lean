
import Derived.Test.YtnggnfhaokkcmaaN26
/- N27: NormalMany's flush -/
namespace Go.Proofs.Ytnggnfhaokkcmaa
open Go.RowKit
set_option linter.unusedVariables false
set_option maxRecDepth 100000

def flushZ (ah : Bool) (G : List Oz) (n : Int) : List Oz := (if 0 < n ∧ ah = true then [zD n] else []) ++ G ++ (if 0 < n ∧ ah = false then [zD n] else [])
theorem flushZ_o (ah : Bool) (G : List Oz) (n : Int) : (flushZ ah G n).map Oz.o = flushY ah (G.map Oz.o) n := by
  unfold flushZ flushY
  rw [List.map_append, List.map_append]
  congr 1
  · congr 1
    split <;> rfl
  · split <;> rfl
section
variable {w0 W w3 : World} {ba bn b1 b2 : Nat} {ah : Bool} {vy vg v3 : Value} {Y G : List Oz} {n : Int}
theorem MY.ptr1 (h : MY w0 ba bn b1 b2 ah vy vg Y G n W) (hg : W.grownBy w3 vy.ownBlock) : w3.cell? ⟨b1, 0, none⟩ = some vy ∧ w3.frozen? ⟨b1, 0, none⟩ = false := by
  have hO : Off (fun k => vy.ownBlock = some k) W w3 := Off.of_grown hg (fun g hg => hg)
  have cy := h.cy.off hO (cb_row h.cy h.oy (by decide))
  exact ⟨cy.cell 0, cy.frozen 0⟩
theorem MY.ptr2 (h : MY w0 ba bn b1 b2 ah vy vg Y G n W) (hg : W.grownBy w3 vg.ownBlock) : w3.cell? ⟨b2, 0, none⟩ = some vg ∧ w3.frozen? ⟨b2, 0, none⟩ = false := by
  have hO : Off (fun k => vg.ownBlock = some k) W w3 := Off.of_grown hg (fun g hg => hg)
  have cg := h.cg.off hO (cb_row h.cg h.og (by decide))
  exact ⟨cg.cell 0, cg.frozen 0⟩
/-- What a load of each finds. -/
theorem MY.cells (h : MY w0 ba bn b1 b2 ah vy vg Y G n W) : W.cell? ⟨b1, 0, none⟩ = some vy ∧ W.cell? ⟨b2, 0, none⟩ = some vg ∧ W.cell? ⟨bn, 0, none⟩ = some (.int .i64 n) ∧ W.cell? ⟨ba, 0, none⟩ = some (.bool ah) ∧ W.frozen? ⟨b1, 0, none⟩ = false ∧ W.frozen? ⟨b2, 0, none⟩ = false ∧ W.frozen? ⟨bn, 0, none⟩ = false :=
  ⟨h.cy.cell 0, h.cg.cell 0, h.cn.cell 0, h.ca.cell 0, h.cy.frozen 0, h.cg.frozen 0, h.cn.frozen 0⟩
theorem fl_app2 (a b : List Oz) : fl ozC a ++ fl ozC b = fl ozC (a ++ b) := (fl_app ozC a b).symm
end

/-- What flush leaves. -/
def FlP (w0 : World) (ba bn b1 b2 : Nat) (ah : Bool) (Y : List Oz) (W : World) : Prop := ∃ vy, MY w0 ba bn b1 b2 ah vy (.slice none 0 0) Y [] 0 W
theorem MY.nil2 {w0 W : World} {ba bn b1 b2 : Nat} {ah : Bool} {vy vg : Value} {Y G : List Oz} {n : Int} (h : MY w0 ba bn b1 b2 ah vy vg Y G n W) : MY w0 ba bn b1 b2 ah vy (.slice none 0 0) Y [] n (W.setCell ⟨b2, 0, none⟩ (.slice none 0 0)) :=
  h.pushG (w3 := W) (v3 := .slice none 0 0) (G3 := []) (grown_refl _ _) (World.ownsRow_nil _ _ _ _) (fun g hg => by simp [Value.ownBlock] at hg) (fun _ => rfl)
theorem MY.after {w0 W : World} {ba bn b1 b2 : Nat} {ah : Bool} {vy vg : Value} {Y G : List Oz} {n : Int} (h : MY w0 ba bn b1 b2 ah vy vg Y G n W) : (W.setCell ⟨b2, 0, none⟩ (.slice none 0 0)).cell? ⟨bn, 0, none⟩ = some (.int .i64 n) ∧ (W.setCell ⟨b2, 0, none⟩ (.slice none 0 0)).frozen? ⟨bn, 0, none⟩ = false :=
  ⟨h.nil2.cells.2.2.1, h.nil2.cells.2.2.2.2.2.2⟩
theorem MY.ends {w0 W : World} {ba bn b1 b2 : Nat} {ah : Bool} {vy vg : Value} {Y G : List Oz} {n : Int} (h : MY w0 ba bn b1 b2 ah vy vg Y G n W) :
    FlP w0 ba bn b1 b2 ah Y ((W.setCell ⟨b2, 0, none⟩ (.slice none 0 0)).setCell ⟨bn, 0, none⟩ (.int .i64 0)) :=
  ⟨vy, h.nil2.num 0⟩
theorem MY.app {w0 W w3 : World} {ba bn b1 b2 : Nat} {ah : Bool} {vy vg : Value} {Y G : List Oz} {n : Int} (h : MY w0 ba bn b1 b2 ah vy vg Y G n W) (hg : W.grownBy w3 vy.ownBlock) {ys : List Oz} {l m g cap : Nat} (hl : Y.length = l) (hm : ys.length = m) (ho : w3.ownsRow w0.heap.size 34 5 (.slice (some ⟨g, 0, none⟩) (l + ys.length) cap) (l + ys.length) (fl ozC Y ++ fl ozC ys)) (hb : vy.ownBlock = some g ∨ W.heap.size ≤ g) :
    ∃ ya l2 yc, (Y ++ ys).length = l2 ∧ MY w0 ba bn b1 b2 ah (.slice ya l2 yc) vg (Y ++ ys) G n (w3.setCell ⟨b1, 0, none⟩ (.slice (some ⟨g, 0, none⟩) (l + m) cap)) := by
  subst hl hm
  refine ⟨some ⟨g, 0, none⟩, _, cap, List.length_append, ?_⟩
  refine h.push hg (Y3 := Y ++ ys) (by rw [List.length_append, ← fl_app2]; exact ho) (fun k hk => ?_)
  have : g = k := by simpa [Value.ownBlock] using hk
  subst this
  exact hb
theorem MY.appG {w0 W w3 : World} {ba bn b1 b2 : Nat} {ah : Bool} {vy vg : Value} {Y G : List Oz} {n : Int} (h : MY w0 ba bn b1 b2 ah vy vg Y G n W) (hg : W.grownBy w3 vg.ownBlock) {ys : List Oz} {l m g cap : Nat} (hl : G.length = l) (hm : ys.length = m) (h0 : 0 < m) (ho : w3.ownsRow w0.heap.size 34 5 (.slice (some ⟨g, 0, none⟩) (l + ys.length) cap) (l + ys.length) (fl ozC G ++ fl ozC ys)) (hb : vg.ownBlock = some g ∨ W.heap.size ≤ g) :
    ∃ vg2, MY w0 ba bn b1 b2 ah vy vg2 Y (G ++ ys) n (w3.setCell ⟨b2, 0, none⟩ (.slice (some ⟨g, 0, none⟩) (l + m) cap)) := by
  subst hl hm
  refine ⟨.slice (some ⟨g, 0, none⟩) (G.length + ys.length) cap, ?_⟩
  refine h.pushG hg (G3 := G ++ ys) (by rw [List.length_append, ← fl_app2]; exact ho) (fun k hk => ?_) (fun e => ?_)
  · have : g = k := by simpa [Value.ownBlock] using hk
    subst this
    exact hb
  · have : G.length + ys.length = 0 := by have := congrArg List.length e; rwa [List.length_append] at this
    omega
set_option maxHeartbeats 4000000 in
theorem flush_1 (w0 : World) (ba bn b1 b2 : Nat) (vy vg : Value) (Y G : List Oz) (n : Int) (W : World) (h : MY w0 ba bn b1 b2 true vy vg Y G n W) (hl : Y.length + G.length ≤ 1000) (hn : 0 < n) (hg0 : 0 < G.length) :
    Calls Try.prog 23 #[.pointer (some ⟨bn, 0, none⟩), .pointer (some ⟨ba, 0, none⟩), .pointer (some ⟨b1, 0, none⟩), .pointer (some ⟨b2, 0, none⟩)] W fun e W' => e = .returned (.tuple #[]) ∧ FlP w0 ba bn b1 b2 true ((Y ++ [zD n]) ++ G) W' := by
  obtain ⟨i0, hi, hz0, hz1, hz2⟩ := info_op
  obtain ⟨y0a, y0c, rfl, -, -⟩ := own_shape h.oy
  obtain ⟨l0, hl0⟩ : ∃ l, Y.length = l := ⟨_, rfl⟩
  rw [hl0] at h hl
  obtain ⟨ga, gc, rfl, -, -⟩ := own_shape h.og
  have HM0 := Lib.hid h
  clear h
  have d1 : decide ((0 : Int) < n) = true := decide_eq_true hn
  go_enter Try.func23, Try.ntmps23
  have HA := Lib.hid (HM0.out.below (kbelow_one W (.cells (zD n).cs 34)))
  have HROW := Lib.hid (Row.built (C := ozC) W 34 [zD n] (by simp [maxLen]))
  have HSZ := Lib.hid HA.out.size
  have HOY := Lib.hid (by have := HA.out.oy; rwa [hl0] at this)
  obtain ⟨cy, cg, cn, ca, fy, fg, fn⟩ := HM0.out.cells
  go_upto_region 2 with (at_builtin; go_loud (refine wpList_append_rowL (C := ozC) rfl (.tmp 9) (.tmp 12) 23 rfl w0.heap.size 34 i0 _ 88 Try.underlying23 hi hz0 hz1 hz2 rfl (.slice y0a l0 y0c) l0 (fl ozC (Y)) rfl HOY.out _ [zD n] rfl HROW.out (by simp) (by unfold maxLen; (try simp); omega) (by (try simp); omega) HSZ.out ?_); intro g3 cap3 w3 hown3 hgrow3 hlies3 hlt3; obtain ⟨hwc, hwf⟩ := HA.out.ptr1 hgrow3)
  obtain ⟨y1a, l1, y1c, hl1, hm⟩ := HA.out.app hgrow3 (ys := [zD n]) (m := 1) hl0 rfl hown3 hlies3
  have HM1 := Lib.hid hm
  have hlb1 : l1 ≤ 3000 := by rw [← hl1]; simp; omega
  generalize w3.setCell ⟨b1, 0, none⟩ _ = W1 at *
  clear hm hown3 hgrow3 hlies3 hlt3 hwc hwf HA HROW HSZ HOY HM0 cy cg cn ca fy fg fn
  have HA := HM1
  have HROW := Lib.hid ((Row.of_owns (C := ozC) HM1.out.og).1)
  have HSZ := Lib.hid HA.out.size
  have HOY := Lib.hid (by have := HA.out.oy; rwa [hl1] at this)
  obtain ⟨cy, cg, cn, ca, fy, fg, fn⟩ := HM1.out.cells
  go_upto_region 3 with (at_builtin; go_loud (refine wpList_append_rowL (C := ozC) rfl (.tmp 14) (.tmp 15) 23 rfl w0.heap.size 34 i0 _ 88 Try.underlying23 hi hz0 hz1 hz2 rfl (.slice y1a l1 y1c) l1 (fl ozC (Y ++ [zD n])) rfl HOY.out _ G rfl HROW.out hg0 (by unfold maxLen; (try simp); omega) (by (try simp); omega) HSZ.out ?_); intro g3 cap3 w3 hown3 hgrow3 hlies3 hlt3; obtain ⟨hwc, hwf⟩ := HA.out.ptr1 hgrow3)
  obtain ⟨y2a, l2, y2c, hl2, hm⟩ := HA.out.app hgrow3 (ys := G) (m := G.length) hl1 rfl hown3 hlies3
  have HM2 := Lib.hid hm
  have hlb2 : l2 ≤ 3000 := by rw [← hl2]; simp; omega
  generalize w3.setCell ⟨b1, 0, none⟩ _ = W2 at *
  clear hm hown3 hgrow3 hlies3 hlt3 hwc hwf HA HROW HSZ HOY HM1 cy cg cn ca fy fg fn
  obtain ⟨cy, cg, cn, ca, fy, fg, fn⟩ := HM2.out.cells
  have HE := Lib.hid HM2.out.ends
  obtain ⟨cx, fx⟩ := HM2.out.after
  go_wp2
  go_end0
  exact ⟨rfl, HE.out⟩
set_option maxHeartbeats 4000000 in
theorem flush_2 (w0 : World) (ba bn b1 b2 : Nat) (vy : Value) (Y : List Oz) (n : Int) (W : World) (h : MY w0 ba bn b1 b2 true vy (.slice none 0 0) Y [] n W) (hl : Y.length + 0 ≤ 1000) (hn : 0 < n) :
    Calls Try.prog 23 #[.pointer (some ⟨bn, 0, none⟩), .pointer (some ⟨ba, 0, none⟩), .pointer (some ⟨b1, 0, none⟩), .pointer (some ⟨b2, 0, none⟩)] W fun e W' => e = .returned (.tuple #[]) ∧ FlP w0 ba bn b1 b2 true (Y ++ [zD n]) W' := by
  obtain ⟨i0, hi, hz0, hz1, hz2⟩ := info_op
  obtain ⟨y0a, y0c, rfl, -, -⟩ := own_shape h.oy
  obtain ⟨l0, hl0⟩ : ∃ l, Y.length = l := ⟨_, rfl⟩
  rw [hl0] at h hl
  have HM0 := Lib.hid h
  clear h
  have d1 : decide ((0 : Int) < n) = true := decide_eq_true hn
  go_enter Try.func23, Try.ntmps23
  have HA := Lib.hid (HM0.out.below (kbelow_one W (.cells (zD n).cs 34)))
  have HROW := Lib.hid (Row.built (C := ozC) W 34 [zD n] (by simp [maxLen]))
  have HSZ := Lib.hid HA.out.size
  have HOY := Lib.hid (by have := HA.out.oy; rwa [hl0] at this)
  obtain ⟨cy, cg, cn, ca, fy, fg, fn⟩ := HM0.out.cells
  go_upto_region 2 with (at_builtin; go_loud (refine wpList_append_rowL (C := ozC) rfl (.tmp 9) (.tmp 12) 23 rfl w0.heap.size 34 i0 _ 88 Try.underlying23 hi hz0 hz1 hz2 rfl (.slice y0a l0 y0c) l0 (fl ozC (Y)) rfl HOY.out _ [zD n] rfl HROW.out (by simp) (by unfold maxLen; (try simp); omega) (by (try simp); omega) HSZ.out ?_); intro g3 cap3 w3 hown3 hgrow3 hlies3 hlt3; obtain ⟨hwc, hwf⟩ := HA.out.ptr1 hgrow3)
  obtain ⟨y1a, l1, y1c, hl1, hm⟩ := HA.out.app hgrow3 (ys := [zD n]) (m := 1) hl0 rfl hown3 hlies3
  have HM1 := Lib.hid hm
  have hlb1 : l1 ≤ 3000 := by rw [← hl1]; simp; omega
  generalize w3.setCell ⟨b1, 0, none⟩ _ = W1 at *
  clear hm hown3 hgrow3 hlies3 hlt3 hwc hwf HA HROW HSZ HOY HM0 cy cg cn ca fy fg fn
  have HOY := Lib.hid (by have := HM1.out.oy; rwa [hl1] at this)
  obtain ⟨cy, cg, cn, ca, fy, fg, fn⟩ := HM1.out.cells
  go_upto_region 3 with (at_builtin; go_loud (refine wpList_append_own_none rfl (.tmp 14) (.tmp 15) 23 rfl w0.heap.size 34 i0 5 Try.underlying23 hi (.slice y1a l1 y1c) l1 (fl ozC (Y ++ [zD n])) rfl HOY.out rfl ?_))
  have HM2 := Lib.hid (show MY w0 ba bn b1 b2 true _ _ _ _ n _ from HM1.out.push (w3 := W1) (v3 := .slice y1a l1 y1c) (grown_refl _ _) HM1.out.oy (fun g hg => .inl hg))
  generalize World.setCell _ ⟨b1, 0, none⟩ _ = W2 at *
  obtain ⟨y2a, l2, y2c, hy⟩ : ∃ a l c, a = y1a ∧ l = l1 ∧ c = y1c := ⟨_, _, _, rfl, rfl, rfl⟩
  obtain ⟨rfl, rfl, rfl⟩ := hy
  have hl2 := hl1
  clear cy cg cn ca fy fg fn HOY HM1
  obtain ⟨cy, cg, cn, ca, fy, fg, fn⟩ := HM2.out.cells
  have HE := Lib.hid HM2.out.ends
  obtain ⟨cx, fx⟩ := HM2.out.after
  go_wp2
  go_end0
  exact ⟨rfl, HE.out⟩
set_option maxHeartbeats 4000000 in
theorem flush_3 (w0 : World) (ba bn b1 b2 : Nat) (vy vg : Value) (Y G : List Oz) (n : Int) (W : World) (h : MY w0 ba bn b1 b2 false vy vg Y G n W) (hl : Y.length + G.length ≤ 1000) (hn : 0 < n) (hg0 : 0 < G.length) :
    Calls Try.prog 23 #[.pointer (some ⟨bn, 0, none⟩), .pointer (some ⟨ba, 0, none⟩), .pointer (some ⟨b1, 0, none⟩), .pointer (some ⟨b2, 0, none⟩)] W fun e W' => e = .returned (.tuple #[]) ∧ FlP w0 ba bn b1 b2 false ((Y ++ G) ++ [zD n]) W' := by
  obtain ⟨i0, hi, hz0, hz1, hz2⟩ := info_op
  obtain ⟨y0a, y0c, rfl, -, -⟩ := own_shape h.oy
  obtain ⟨l0, hl0⟩ : ∃ l, Y.length = l := ⟨_, rfl⟩
  rw [hl0] at h hl
  obtain ⟨ga, gc, rfl, -, -⟩ := own_shape h.og
  have HM0 := Lib.hid h
  clear h
  have d1 : decide ((0 : Int) < n) = true := decide_eq_true hn
  go_enter Try.func23, Try.ntmps23
  have HA := HM0
  have HROW := Lib.hid ((Row.of_owns (C := ozC) HM0.out.og).1)
  have HSZ := Lib.hid HA.out.size
  have HOY := Lib.hid (by have := HA.out.oy; rwa [hl0] at this)
  obtain ⟨cy, cg, cn, ca, fy, fg, fn⟩ := HM0.out.cells
  go_upto_region 3 with (at_builtin; go_loud (refine wpList_append_rowL (C := ozC) rfl (.tmp 14) (.tmp 15) 23 rfl w0.heap.size 34 i0 _ 88 Try.underlying23 hi hz0 hz1 hz2 rfl (.slice y0a l0 y0c) l0 (fl ozC (Y)) rfl HOY.out _ G rfl HROW.out hg0 (by unfold maxLen; (try simp); omega) (by (try simp); omega) HSZ.out ?_); intro g3 cap3 w3 hown3 hgrow3 hlies3 hlt3; obtain ⟨hwc, hwf⟩ := HA.out.ptr1 hgrow3)
  obtain ⟨y1a, l1, y1c, hl1, hm⟩ := HA.out.app hgrow3 (ys := G) (m := G.length) hl0 rfl hown3 hlies3
  have HM1 := Lib.hid hm
  have hlb1 : l1 ≤ 3000 := by rw [← hl1]; simp; omega
  generalize w3.setCell ⟨b1, 0, none⟩ _ = W1 at *
  clear hm hown3 hgrow3 hlies3 hlt3 hwc hwf HA HROW HSZ HOY HM0 cy cg cn ca fy fg fn
  have HA := Lib.hid (HM1.out.below (kbelow_one W1 (.cells (zD n).cs 34)))
  have HROW := Lib.hid (Row.built (C := ozC) W1 34 [zD n] (by simp [maxLen]))
  have HSZ := Lib.hid HA.out.size
  have HOY := Lib.hid (by have := HA.out.oy; rwa [hl1] at this)
  obtain ⟨cy, cg, cn, ca, fy, fg, fn⟩ := HM1.out.cells
  go_upto_region 5 with (at_builtin; go_loud (refine wpList_append_rowL (C := ozC) rfl (.tmp 23) (.tmp 26) 23 rfl w0.heap.size 34 i0 _ 88 Try.underlying23 hi hz0 hz1 hz2 rfl (.slice y1a l1 y1c) l1 (fl ozC (Y ++ G)) rfl HOY.out _ [zD n] rfl HROW.out (by simp) (by unfold maxLen; (try simp); omega) (by (try simp); omega) HSZ.out ?_); intro g3 cap3 w3 hown3 hgrow3 hlies3 hlt3; obtain ⟨hwc, hwf⟩ := HA.out.ptr1 hgrow3)
  obtain ⟨y2a, l2, y2c, hl2, hm⟩ := HA.out.app hgrow3 (ys := [zD n]) (m := 1) hl1 rfl hown3 hlies3
  have HM2 := Lib.hid hm
  have hlb2 : l2 ≤ 3000 := by rw [← hl2]; simp; omega
  generalize w3.setCell ⟨b1, 0, none⟩ _ = W2 at *
  clear hm hown3 hgrow3 hlies3 hlt3 hwc hwf HA HROW HSZ HOY HM1 cy cg cn ca fy fg fn
  obtain ⟨cy, cg, cn, ca, fy, fg, fn⟩ := HM2.out.cells
  have HE := Lib.hid HM2.out.ends
  obtain ⟨cx, fx⟩ := HM2.out.after
  go_wp2
  go_end0
  exact ⟨rfl, HE.out⟩
set_option maxHeartbeats 4000000 in
theorem flush_4 (w0 : World) (ba bn b1 b2 : Nat) (vy : Value) (Y : List Oz) (n : Int) (W : World) (h : MY w0 ba bn b1 b2 false vy (.slice none 0 0) Y [] n W) (hl : Y.length + 0 ≤ 1000) (hn : 0 < n) :
    Calls Try.prog 23 #[.pointer (some ⟨bn, 0, none⟩), .pointer (some ⟨ba, 0, none⟩), .pointer (some ⟨b1, 0, none⟩), .pointer (some ⟨b2, 0, none⟩)] W fun e W' => e = .returned (.tuple #[]) ∧ FlP w0 ba bn b1 b2 false (Y ++ [zD n]) W' := by
  obtain ⟨i0, hi, hz0, hz1, hz2⟩ := info_op
  obtain ⟨y0a, y0c, rfl, -, -⟩ := own_shape h.oy
  obtain ⟨l0, hl0⟩ : ∃ l, Y.length = l := ⟨_, rfl⟩
  rw [hl0] at h hl
  have HM0 := Lib.hid h
  clear h
  have d1 : decide ((0 : Int) < n) = true := decide_eq_true hn
  go_enter Try.func23, Try.ntmps23
  have HOY := Lib.hid (by have := HM0.out.oy; rwa [hl0] at this)
  obtain ⟨cy, cg, cn, ca, fy, fg, fn⟩ := HM0.out.cells
  go_upto_region 3 with (at_builtin; go_loud (refine wpList_append_own_none rfl (.tmp 14) (.tmp 15) 23 rfl w0.heap.size 34 i0 5 Try.underlying23 hi (.slice y0a l0 y0c) l0 (fl ozC (Y)) rfl HOY.out rfl ?_))
  have HM1 := Lib.hid (show MY w0 ba bn b1 b2 false _ _ _ _ n _ from HM0.out.push (w3 := W) (v3 := .slice y0a l0 y0c) (grown_refl _ _) HM0.out.oy (fun g hg => .inl hg))
  generalize World.setCell _ ⟨b1, 0, none⟩ _ = W1 at *
  obtain ⟨y1a, l1, y1c, hy⟩ : ∃ a l c, a = y0a ∧ l = l0 ∧ c = y0c := ⟨_, _, _, rfl, rfl, rfl⟩
  obtain ⟨rfl, rfl, rfl⟩ := hy
  have hl1 := hl0
  clear cy cg cn ca fy fg fn HOY HM0
  have HA := Lib.hid (HM1.out.below (kbelow_one W1 (.cells (zD n).cs 34)))
  have HROW := Lib.hid (Row.built (C := ozC) W1 34 [zD n] (by simp [maxLen]))
  have HSZ := Lib.hid HA.out.size
  have HOY := Lib.hid (by have := HA.out.oy; rwa [hl1] at this)
  obtain ⟨cy, cg, cn, ca, fy, fg, fn⟩ := HM1.out.cells
  go_upto_region 5 with (at_builtin; go_loud (refine wpList_append_rowL (C := ozC) rfl (.tmp 23) (.tmp 26) 23 rfl w0.heap.size 34 i0 _ 88 Try.underlying23 hi hz0 hz1 hz2 rfl (.slice y1a l1 y1c) l1 (fl ozC (Y)) rfl HOY.out _ [zD n] rfl HROW.out (by simp) (by unfold maxLen; (try simp); omega) (by (try simp); omega) HSZ.out ?_); intro g3 cap3 w3 hown3 hgrow3 hlies3 hlt3; obtain ⟨hwc, hwf⟩ := HA.out.ptr1 hgrow3)
  obtain ⟨y2a, l2, y2c, hl2, hm⟩ := HA.out.app hgrow3 (ys := [zD n]) (m := 1) hl1 rfl hown3 hlies3
  have HM2 := Lib.hid hm
  have hlb2 : l2 ≤ 3000 := by rw [← hl2]; simp; omega
  generalize w3.setCell ⟨b1, 0, none⟩ _ = W2 at *
  clear hm hown3 hgrow3 hlies3 hlt3 hwc hwf HA HROW HSZ HOY HM1 cy cg cn ca fy fg fn
  obtain ⟨cy, cg, cn, ca, fy, fg, fn⟩ := HM2.out.cells
  have HE := Lib.hid HM2.out.ends
  obtain ⟨cx, fx⟩ := HM2.out.after
  go_wp2
  go_end0
  exact ⟨rfl, HE.out⟩
set_option maxHeartbeats 4000000 in
theorem flush_5 (w0 : World) (ba bn b1 b2 : Nat) (vy vg : Value) (Y G : List Oz) (n : Int) (W : World) (h : MY w0 ba bn b1 b2 true vy vg Y G n W) (hl : Y.length + G.length ≤ 1000) (hn : n ≤ 0) (hg0 : 0 < G.length) :
    Calls Try.prog 23 #[.pointer (some ⟨bn, 0, none⟩), .pointer (some ⟨ba, 0, none⟩), .pointer (some ⟨b1, 0, none⟩), .pointer (some ⟨b2, 0, none⟩)] W fun e W' => e = .returned (.tuple #[]) ∧ FlP w0 ba bn b1 b2 true (Y ++ G) W' := by
  obtain ⟨i0, hi, hz0, hz1, hz2⟩ := info_op
  obtain ⟨y0a, y0c, rfl, -, -⟩ := own_shape h.oy
  obtain ⟨l0, hl0⟩ : ∃ l, Y.length = l := ⟨_, rfl⟩
  rw [hl0] at h hl
  obtain ⟨ga, gc, rfl, -, -⟩ := own_shape h.og
  have HM0 := Lib.hid h
  clear h
  have d1 : decide ((0 : Int) < n) = false := decide_eq_false (by omega)
  go_enter Try.func23, Try.ntmps23
  have HA := HM0
  have HROW := Lib.hid ((Row.of_owns (C := ozC) HM0.out.og).1)
  have HSZ := Lib.hid HA.out.size
  have HOY := Lib.hid (by have := HA.out.oy; rwa [hl0] at this)
  obtain ⟨cy, cg, cn, ca, fy, fg, fn⟩ := HM0.out.cells
  go_upto_region 3 with (at_builtin; go_loud (refine wpList_append_rowL (C := ozC) rfl (.tmp 14) (.tmp 15) 23 rfl w0.heap.size 34 i0 _ 88 Try.underlying23 hi hz0 hz1 hz2 rfl (.slice y0a l0 y0c) l0 (fl ozC (Y)) rfl HOY.out _ G rfl HROW.out hg0 (by unfold maxLen; (try simp); omega) (by (try simp); omega) HSZ.out ?_); intro g3 cap3 w3 hown3 hgrow3 hlies3 hlt3; obtain ⟨hwc, hwf⟩ := HA.out.ptr1 hgrow3)
  obtain ⟨y1a, l1, y1c, hl1, hm⟩ := HA.out.app hgrow3 (ys := G) (m := G.length) hl0 rfl hown3 hlies3
  have HM1 := Lib.hid hm
  have hlb1 : l1 ≤ 3000 := by rw [← hl1]; simp; omega
  generalize w3.setCell ⟨b1, 0, none⟩ _ = W1 at *
  clear hm hown3 hgrow3 hlies3 hlt3 hwc hwf HA HROW HSZ HOY HM0 cy cg cn ca fy fg fn
  obtain ⟨cy, cg, cn, ca, fy, fg, fn⟩ := HM1.out.cells
  have HE := Lib.hid HM1.out.ends
  obtain ⟨cx, fx⟩ := HM1.out.after
  go_wp2
  go_end0
  exact ⟨rfl, HE.out⟩
set_option maxHeartbeats 4000000 in
theorem flush_6 (w0 : World) (ba bn b1 b2 : Nat) (vy : Value) (Y : List Oz) (n : Int) (W : World) (h : MY w0 ba bn b1 b2 true vy (.slice none 0 0) Y [] n W) (hl : Y.length + 0 ≤ 1000) (hn : n ≤ 0) :
    Calls Try.prog 23 #[.pointer (some ⟨bn, 0, none⟩), .pointer (some ⟨ba, 0, none⟩), .pointer (some ⟨b1, 0, none⟩), .pointer (some ⟨b2, 0, none⟩)] W fun e W' => e = .returned (.tuple #[]) ∧ FlP w0 ba bn b1 b2 true (Y) W' := by
  obtain ⟨i0, hi, hz0, hz1, hz2⟩ := info_op
  obtain ⟨y0a, y0c, rfl, -, -⟩ := own_shape h.oy
  obtain ⟨l0, hl0⟩ : ∃ l, Y.length = l := ⟨_, rfl⟩
  rw [hl0] at h hl
  have HM0 := Lib.hid h
  clear h
  have d1 : decide ((0 : Int) < n) = false := decide_eq_false (by omega)
  go_enter Try.func23, Try.ntmps23
  have HOY := Lib.hid (by have := HM0.out.oy; rwa [hl0] at this)
  obtain ⟨cy, cg, cn, ca, fy, fg, fn⟩ := HM0.out.cells
  go_upto_region 3 with (at_builtin; go_loud (refine wpList_append_own_none rfl (.tmp 14) (.tmp 15) 23 rfl w0.heap.size 34 i0 5 Try.underlying23 hi (.slice y0a l0 y0c) l0 (fl ozC (Y)) rfl HOY.out rfl ?_))
  have HM1 := Lib.hid (show MY w0 ba bn b1 b2 true _ _ _ _ n _ from HM0.out.push (w3 := W) (v3 := .slice y0a l0 y0c) (grown_refl _ _) HM0.out.oy (fun g hg => .inl hg))
  generalize World.setCell _ ⟨b1, 0, none⟩ _ = W1 at *
  obtain ⟨y1a, l1, y1c, hy⟩ : ∃ a l c, a = y0a ∧ l = l0 ∧ c = y0c := ⟨_, _, _, rfl, rfl, rfl⟩
  obtain ⟨rfl, rfl, rfl⟩ := hy
  have hl1 := hl0
  clear cy cg cn ca fy fg fn HOY HM0
  obtain ⟨cy, cg, cn, ca, fy, fg, fn⟩ := HM1.out.cells
  have HE := Lib.hid HM1.out.ends
  obtain ⟨cx, fx⟩ := HM1.out.after
  go_wp2
  go_end0
  exact ⟨rfl, HE.out⟩
set_option maxHeartbeats 4000000 in
theorem flush_7 (w0 : World) (ba bn b1 b2 : Nat) (vy vg : Value) (Y G : List Oz) (n : Int) (W : World) (h : MY w0 ba bn b1 b2 false vy vg Y G n W) (hl : Y.length + G.length ≤ 1000) (hn : n ≤ 0) (hg0 : 0 < G.length) :
    Calls Try.prog 23 #[.pointer (some ⟨bn, 0, none⟩), .pointer (some ⟨ba, 0, none⟩), .pointer (some ⟨b1, 0, none⟩), .pointer (some ⟨b2, 0, none⟩)] W fun e W' => e = .returned (.tuple #[]) ∧ FlP w0 ba bn b1 b2 false (Y ++ G) W' := by
  obtain ⟨i0, hi, hz0, hz1, hz2⟩ := info_op
  obtain ⟨y0a, y0c, rfl, -, -⟩ := own_shape h.oy
  obtain ⟨l0, hl0⟩ : ∃ l, Y.length = l := ⟨_, rfl⟩
  rw [hl0] at h hl
  obtain ⟨ga, gc, rfl, -, -⟩ := own_shape h.og
  have HM0 := Lib.hid h
  clear h
  have d1 : decide ((0 : Int) < n) = false := decide_eq_false (by omega)
  go_enter Try.func23, Try.ntmps23
  have HA := HM0
  have HROW := Lib.hid ((Row.of_owns (C := ozC) HM0.out.og).1)
  have HSZ := Lib.hid HA.out.size
  have HOY := Lib.hid (by have := HA.out.oy; rwa [hl0] at this)
  obtain ⟨cy, cg, cn, ca, fy, fg, fn⟩ := HM0.out.cells
  go_upto_region 3 with (at_builtin; go_loud (refine wpList_append_rowL (C := ozC) rfl (.tmp 14) (.tmp 15) 23 rfl w0.heap.size 34 i0 _ 88 Try.underlying23 hi hz0 hz1 hz2 rfl (.slice y0a l0 y0c) l0 (fl ozC (Y)) rfl HOY.out _ G rfl HROW.out hg0 (by unfold maxLen; (try simp); omega) (by (try simp); omega) HSZ.out ?_); intro g3 cap3 w3 hown3 hgrow3 hlies3 hlt3; obtain ⟨hwc, hwf⟩ := HA.out.ptr1 hgrow3)
  obtain ⟨y1a, l1, y1c, hl1, hm⟩ := HA.out.app hgrow3 (ys := G) (m := G.length) hl0 rfl hown3 hlies3
  have HM1 := Lib.hid hm
  have hlb1 : l1 ≤ 3000 := by rw [← hl1]; simp; omega
  generalize w3.setCell ⟨b1, 0, none⟩ _ = W1 at *
  clear hm hown3 hgrow3 hlies3 hlt3 hwc hwf HA HROW HSZ HOY HM0 cy cg cn ca fy fg fn
  obtain ⟨cy, cg, cn, ca, fy, fg, fn⟩ := HM1.out.cells
  have HE := Lib.hid HM1.out.ends
  obtain ⟨cx, fx⟩ := HM1.out.after
  go_wp2
  go_end0
  exact ⟨rfl, HE.out⟩
set_option maxHeartbeats 4000000 in
theorem flush_8 (w0 : World) (ba bn b1 b2 : Nat) (vy : Value) (Y : List Oz) (n : Int) (W : World) (h : MY w0 ba bn b1 b2 false vy (.slice none 0 0) Y [] n W) (hl : Y.length + 0 ≤ 1000) (hn : n ≤ 0) :
    Calls Try.prog 23 #[.pointer (some ⟨bn, 0, none⟩), .pointer (some ⟨ba, 0, none⟩), .pointer (some ⟨b1, 0, none⟩), .pointer (some ⟨b2, 0, none⟩)] W fun e W' => e = .returned (.tuple #[]) ∧ FlP w0 ba bn b1 b2 false (Y) W' := by
  obtain ⟨i0, hi, hz0, hz1, hz2⟩ := info_op
  obtain ⟨y0a, y0c, rfl, -, -⟩ := own_shape h.oy
  obtain ⟨l0, hl0⟩ : ∃ l, Y.length = l := ⟨_, rfl⟩
  rw [hl0] at h hl
  have HM0 := Lib.hid h
  clear h
  have d1 : decide ((0 : Int) < n) = false := decide_eq_false (by omega)
  go_enter Try.func23, Try.ntmps23
  have HOY := Lib.hid (by have := HM0.out.oy; rwa [hl0] at this)
  obtain ⟨cy, cg, cn, ca, fy, fg, fn⟩ := HM0.out.cells
  go_upto_region 3 with (at_builtin; go_loud (refine wpList_append_own_none rfl (.tmp 14) (.tmp 15) 23 rfl w0.heap.size 34 i0 5 Try.underlying23 hi (.slice y0a l0 y0c) l0 (fl ozC (Y)) rfl HOY.out rfl ?_))
  have HM1 := Lib.hid (show MY w0 ba bn b1 b2 false _ _ _ _ n _ from HM0.out.push (w3 := W) (v3 := .slice y0a l0 y0c) (grown_refl _ _) HM0.out.oy (fun g hg => .inl hg))
  generalize World.setCell _ ⟨b1, 0, none⟩ _ = W1 at *
  obtain ⟨y1a, l1, y1c, hy⟩ : ∃ a l c, a = y0a ∧ l = l0 ∧ c = y0c := ⟨_, _, _, rfl, rfl, rfl⟩
  obtain ⟨rfl, rfl, rfl⟩ := hy
  have hl1 := hl0
  clear cy cg cn ca fy fg fn HOY HM0
  obtain ⟨cy, cg, cn, ca, fy, fg, fn⟩ := HM1.out.cells
  have HE := Lib.hid HM1.out.ends
  obtain ⟨cx, fx⟩ := HM1.out.after
  go_wp2
  go_end0
  exact ⟨rfl, HE.out⟩
theorem flush_any (w0 : World) (ba bn b1 b2 : Nat) (ah : Bool) (vy vg : Value) (Y G : List Oz) (n : Int) (W : World) (h : MY w0 ba bn b1 b2 ah vy vg Y G n W) (hl : Y.length + G.length ≤ 1000) :
    Calls Try.prog 23 #[.pointer (some ⟨bn, 0, none⟩), .pointer (some ⟨ba, 0, none⟩), .pointer (some ⟨b1, 0, none⟩), .pointer (some ⟨b2, 0, none⟩)] W fun e W' => e = .returned (.tuple #[]) ∧ FlP w0 ba bn b1 b2 ah (Y ++ flushZ ah G n) W' := by
  by_cases hn : 0 < n
  · by_cases hg : 0 < G.length
    · cases ah
      · have := flush_3 w0 ba bn b1 b2 vy vg Y G n W h hl hn hg
        rwa [show Y ++ flushZ false G n = Y ++ G ++ [zD n] by simp [flushZ, hn]]
      · have := flush_1 w0 ba bn b1 b2 vy vg Y G n W h hl hn hg
        rwa [show Y ++ flushZ true G n = Y ++ [zD n] ++ G by simp [flushZ, hn]]
    · obtain rfl : G = [] := List.eq_nil_of_length_eq_zero (by omega)
      obtain rfl := h.g0 rfl
      cases ah
      · have := flush_4 w0 ba bn b1 b2 vy Y n W h hl hn
        rwa [show Y ++ flushZ false [] n = Y ++ [zD n] by simp [flushZ, hn]]
      · have := flush_2 w0 ba bn b1 b2 vy Y n W h hl hn
        rwa [show Y ++ flushZ true [] n = Y ++ [zD n] by simp [flushZ, hn]]
  · have hn' : n ≤ 0 := by omega
    have e : Y ++ flushZ ah G n = Y ++ G := by simp [flushZ, hn]
    rw [e]
    by_cases hg : 0 < G.length
    · cases ah
      · exact flush_7 w0 ba bn b1 b2 vy vg Y G n W h hl hn' hg
      · exact flush_5 w0 ba bn b1 b2 vy vg Y G n W h hl hn' hg
    · obtain rfl : G = [] := List.eq_nil_of_length_eq_zero (by omega)
      obtain rfl := h.g0 rfl
      rw [List.append_nil]
      cases ah
      · exact flush_8 w0 ba bn b1 b2 vy Y n W h hl hn'
      · exact flush_6 w0 ba bn b1 b2 vy Y n W h hl hn'
end Go.Proofs.Ytnggnfhaokkcmaa
