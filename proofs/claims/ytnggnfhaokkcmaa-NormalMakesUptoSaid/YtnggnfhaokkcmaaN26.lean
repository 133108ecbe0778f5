
import Derived.Test.YtnggnfhaokkcmaaN25
/- N26: a variable that holds a row of the call's own; NormalMany's three -/
namespace Go.Proofs.Ytnggnfhaokkcmaa
open Go.RowKit
set_option linter.unusedVariables false
set_option maxRecDepth 100000

section
variable {α : Type} {C : Cel α} {P : Program} {w : World} {o : Oper} {a : Act}
/-- append(out, src...), where src has an element: out's row lies where it lay, or in a new block. -/
theorem wp_append_rowL {K : Act → World → Prop} {Q : Exit → Act → World → Prop} (s x : Operand) (t : TypeId)
    (ho : o.op = .call { callee := .builtin .append, args := #[s, x], argTypes := #[t, t] })
    (base : Nat) (e : TypeId) (i : TypeInfo) (z : Value) (bytes : Nat) (ht : P.underlying t = some (.slice e)) (hi : P.info? e = some i) (hz : i.zero = some z)
    (hsize : i.size = C.m) (hby : i.bytes = bytes) (hzs : z.cells.size = C.m)
    (v : Value) (n : Nat) (cs : List Value) (hs : a.eval s = v) (hown : w.ownsRow base e C.m v n cs)
    (u : Value) (ys : List α) (hx : a.eval x = u) (hu : Row C w u ys) (h0 : 0 < ys.length)
    (h63 : n + ys.length ≤ maxLen) (hbytes : (n + ys.length) * bytes ≤ 140737488355328) (hbase : base ≤ w.heap.size)
    (h : ∀ g cap w', w'.ownsRow base e C.m (.slice (some ⟨g, 0, none⟩) (n + ys.length) cap) (n + ys.length) (cs ++ fl C ys) → w.grownBy w' v.ownBlock → (v.ownBlock = some g ∨ w.heap.size ≤ g) → g < w'.heap.size → K (a.put o.dst (.slice (some ⟨g, 0, none⟩) (n + ys.length) cap)) w') : o.wp P a w K Q := by
  rcases hu with ⟨ad, cap, rfl, rfl, hm, hc0⟩ | ⟨b, off, cap, rfl, -, h1, hm, hc⟩
  · simp at h0
  · refine wp_append_lies w s x t ho base e i z C.m bytes ht hi hz hsize hby hzs C.pos v n cs hs hown ⟨b, off, none⟩ ys.length cap (fl C ys) hx (fl_len C ys) ?_ (fl_ones C ys) h0 h63 hbytes hbase _ rfl (fun g cap w' q1 q2 q3 q4 => h g cap w' q1 q2 (q3.imp id (fun e => by omega)) q4)
    intro j u hj
    rw [Go.WideShapes.add_plain]
    exact hc j u hj
theorem wpList_append_rowL {ops : Array Oper} {rest : List Oper} {Q : Exit → Act → World → Prop} (hgd : o.guard = none) (s x : Operand) (t : TypeId)
    (ho : o.op = .call { callee := .builtin .append, args := #[s, x], argTypes := #[t, t] })
    (base : Nat) (e : TypeId) (i : TypeInfo) (z : Value) (bytes : Nat) (ht : P.underlying t = some (.slice e)) (hi : P.info? e = some i) (hz : i.zero = some z)
    (hsize : i.size = C.m) (hby : i.bytes = bytes) (hzs : z.cells.size = C.m)
    (v : Value) (n : Nat) (cs : List Value) (hs : a.eval s = v) (hown : w.ownsRow base e C.m v n cs)
    (u : Value) (ys : List α) (hx : a.eval x = u) (hu : Row C w u ys) (h0 : 0 < ys.length)
    (h63 : n + ys.length ≤ maxLen) (hbytes : (n + ys.length) * bytes ≤ 140737488355328) (hbase : base ≤ w.heap.size)
    (h : ∀ g cap w', w'.ownsRow base e C.m (.slice (some ⟨g, 0, none⟩) (n + ys.length) cap) (n + ys.length) (cs ++ fl C ys) → w.grownBy w' v.ownBlock → (v.ownBlock = some g ∨ w.heap.size ≤ g) → g < w'.heap.size → wpList P ops Q rest (a.put o.dst (.slice (some ⟨g, 0, none⟩) (n + ys.length) cap)) w') : wpList P ops Q (o :: rest) a w :=
  wpList_plain hgd fun _ hK => wp_append_rowL s x t ho base e i z bytes ht hi hz hsize hby hzs v n cs hs hown u ys hx hu h0 h63 hbytes hbase fun g cap w' h2 h3 h4 h5 => hK _ _ (h g cap w' h2 h3 h4 h5)
theorem step_append_rowL {ops : Array Oper} {K : Act → World → Prop} {Q : Exit → Act → World → Prop} {E : Prop} (hgd : o.guard = none) (s x : Operand) (t : TypeId)
    (ho : o.op = .call { callee := .builtin .append, args := #[s, x], argTypes := #[t, t] })
    (base : Nat) (e : TypeId) (i : TypeInfo) (z : Value) (bytes : Nat) (ht : P.underlying t = some (.slice e)) (hi : P.info? e = some i) (hz : i.zero = some z)
    (hsize : i.size = C.m) (hby : i.bytes = bytes) (hzs : z.cells.size = C.m)
    (v : Value) (n : Nat) (cs : List Value) (hs : a.eval s = v) (hown : w.ownsRow base e C.m v n cs)
    (u : Value) (ys : List α) (hx : a.eval x = u) (hu : Row C w u ys) (h0 : 0 < ys.length)
    (h63 : n + ys.length ≤ maxLen) (hbytes : (n + ys.length) * bytes ≤ 140737488355328) (hbase : base ≤ w.heap.size)
    (h : ∀ g cap w', w'.ownsRow base e C.m (.slice (some ⟨g, 0, none⟩) (n + ys.length) cap) (n + ys.length) (cs ++ fl C ys) → w.grownBy w' v.ownBlock → (v.ownBlock = some g ∨ w.heap.size ≤ g) → g < w'.heap.size → K (a.put o.dst (.slice (some ⟨g, 0, none⟩) (n + ys.length) cap)) w') :
    if Region.wanted o (yielded ops a.tmps) = true then Oper.wp P o a w K Q else E := by
  have hw : Region.wanted o (yielded ops a.tmps) = true := by simp [Region.wanted, hgd]
  rw [if_pos hw]
  exact wp_append_rowL s x t ho base e i z bytes ht hi hz hsize hby hzs v n cs hs hown u ys hx hu h0 h63 hbytes hbase h
end

/-- NormalMany's variables: y, gap, gone, ahead. -/
structure MY (w0 : World) (ba bn b1 b2 : Nat) (ah : Bool) (vy vg : Value) (Y G : List Oz) (n : Int) (W : World) : Prop where
  bel : Below w0.heap.size w0 W
  cy : Cb b1 23 #[vy] W
  cg : Cb b2 23 #[vg] W
  cn : Cb bn 3 #[.int .i64 n] W
  ca : Cb ba 4 #[.bool ah] W
  oy : W.ownsRow w0.heap.size 34 5 vy Y.length (fl ozC Y)
  og : W.ownsRow w0.heap.size 34 5 vg G.length (fl ozC G)
  ap : ∀ g, vy.ownBlock = some g → vg.ownBlock ≠ some g
  g0 : G = [] → vg = .slice none 0 0
  ne : b1 ≠ b2
  h1 : w0.heap.size ≤ b1
  h2 : w0.heap.size ≤ b2
  hn : w0.heap.size ≤ bn
section
variable {w0 W w2 w3 : World} {ba bn b1 b2 : Nat} {ah : Bool} {vy vg v3 : Value} {Y G ys : List Oz} {n : Int}
theorem cb_type {b b' : Nat} {t t' : TypeId} {cs cs' : Array Value} (h : Cb b t cs W) (h' : Cb b' t' cs' W) (hne : t ≠ t') : b ≠ b' := fun e => by
  subst e
  unfold Cb at h h'
  rw [h] at h'
  injection h' with h'
  injection h' with _ h' _
  exact hne h'
theorem cb_row {b B k : Nat} {t e : TypeId} {cs : Array Value} {v : Value} {xs : List Value} {m : Nat} (h : Cb b t cs W) (ho : W.ownsRow B e m v k xs) (hne : t ≠ e) : v.ownBlock ≠ some b := fun hb => by
  obtain ⟨cur, hc⟩ := own_tag ho hb
  unfold Cb at h
  rw [h] at hc
  injection hc with hc
  injection hc with _ hc _
  exact hne hc
theorem MY.size (h : MY w0 ba bn b1 b2 ah vy vg Y G n W) : w0.heap.size ≤ W.heap.size := h.bel.size
theorem MY.below (h : MY w0 ba bn b1 b2 ah vy vg Y G n W) (hb : Below W.heap.size W w2) : MY w0 ba bn b1 b2 ah vy vg Y G n w2 :=
  ⟨below_add h.bel hb h.bel.size, h.cy.below hb, h.cg.below hb, h.cn.below hb, h.ca.below hb, owns_below h.oy hb, owns_below h.og hb, h.ap, h.g0, h.ne, h.h1, h.h2, h.hn⟩
/-- Another row stored in y. -/
theorem MY.push (h : MY w0 ba bn b1 b2 ah vy vg Y G n W) (hg : W.grownBy w3 vy.ownBlock) {Y3 : List Oz} (ho : w3.ownsRow w0.heap.size 34 5 v3 Y3.length (fl ozC Y3)) (hl : ∀ g, v3.ownBlock = some g → vy.ownBlock = some g ∨ W.heap.size ≤ g) :
    MY w0 ba bn b1 b2 ah v3 vg Y3 G n (w3.setCell ⟨b1, 0, none⟩ v3) := by
  have hO : Off (fun k => vy.ownBlock = some k) W w3 := Off.of_grown hg (fun g hg => hg)
  have hS : Off (fun k => k = b1) w3 (w3.setCell ⟨b1, 0, none⟩ v3) := Off.of_grown (grown_set (w := w3) (g := b1) (o := 0) v3) (fun g hg => by cases hg; rfl)
  have cy := h.cy.off hO (cb_row h.cy h.oy (by decide))
  have cg := h.cg.off hO (cb_row h.cg h.oy (by decide))
  have cn := h.cn.off hO (cb_row h.cn h.oy (by decide))
  have ca := h.ca.off hO (cb_row h.ca h.oy (by decide))
  have og : w3.ownsRow w0.heap.size 34 5 vg G.length (fl ozC G) := owns_kept h.og fun g hg => hO.block g (own_lt7 h.og hg) (fun e => h.ap g e hg)
  have hbl : Below w0.heap.size w0 (w3.setCell ⟨b1, 0, none⟩ v3) := by
    have h3 : Below w0.heap.size W w3 := hO.below (fun k hk => own_base h.oy hk) h.bel.size
    have h4 : Below w0.heap.size w3 (w3.setCell ⟨b1, 0, none⟩ v3) := hS.below (fun k hk => by subst hk; exact h.h1) (Nat.le_trans h.bel.size hg.size)
    exact h.bel.trans (h3.trans h4)
  refine ⟨hbl, heap_set _ cy, cg.off hS (fun e => h.ne e.symm), cn.off hS (cb_type cn cy (by decide)), ca.off hS (cb_type ca cy (by decide)), owns_kept ho fun g hg => hS.block g (own_lt7 ho hg) (fun e => cb_row cy ho (by decide) (by rw [hg, e])), owns_kept og fun g hg => hS.block g (own_lt7 og hg) (fun e => cb_row cy og (by decide) (by rw [hg, e])), fun g e1 e2 => ?_, h.g0, h.ne, h.h1, h.h2, h.hn⟩
  rcases hl g e1 with e | e
  · exact h.ap g e e2
  · have := own_lt7 h.og e2
    omega
/-- Another row stored in gap. -/
theorem MY.pushG (h : MY w0 ba bn b1 b2 ah vy vg Y G n W) (hg : W.grownBy w3 vg.ownBlock) {G3 : List Oz} (ho : w3.ownsRow w0.heap.size 34 5 v3 G3.length (fl ozC G3)) (hl : ∀ g, v3.ownBlock = some g → vg.ownBlock = some g ∨ W.heap.size ≤ g) (h0 : G3 = [] → v3 = .slice none 0 0) :
    MY w0 ba bn b1 b2 ah vy v3 Y G3 n (w3.setCell ⟨b2, 0, none⟩ v3) := by
  have hO : Off (fun k => vg.ownBlock = some k) W w3 := Off.of_grown hg (fun g hg => hg)
  have hS : Off (fun k => k = b2) w3 (w3.setCell ⟨b2, 0, none⟩ v3) := Off.of_grown (grown_set (w := w3) (g := b2) (o := 0) v3) (fun g hg => by cases hg; rfl)
  have cy := h.cy.off hO (cb_row h.cy h.og (by decide))
  have cg := h.cg.off hO (cb_row h.cg h.og (by decide))
  have cn := h.cn.off hO (cb_row h.cn h.og (by decide))
  have ca := h.ca.off hO (cb_row h.ca h.og (by decide))
  have oy : w3.ownsRow w0.heap.size 34 5 vy Y.length (fl ozC Y) := owns_kept h.oy fun g hg => hO.block g (own_lt7 h.oy hg) (fun e => h.ap g hg e)
  have hbl : Below w0.heap.size w0 (w3.setCell ⟨b2, 0, none⟩ v3) := by
    have h3 : Below w0.heap.size W w3 := hO.below (fun k hk => own_base h.og hk) h.bel.size
    have h4 : Below w0.heap.size w3 (w3.setCell ⟨b2, 0, none⟩ v3) := hS.below (fun k hk => by subst hk; exact h.h2) (Nat.le_trans h.bel.size hg.size)
    exact h.bel.trans (h3.trans h4)
  refine ⟨hbl, cy.off hS h.ne, heap_set _ cg, cn.off hS (cb_type cn cg (by decide)), ca.off hS (cb_type ca cg (by decide)), owns_kept oy fun g hg => hS.block g (own_lt7 oy hg) (fun e => cb_row cg oy (by decide) (by rw [hg, e])), owns_kept ho fun g hg => hS.block g (own_lt7 ho hg) (fun e => cb_row cg ho (by decide) (by rw [hg, e])), fun g e1 e2 => ?_, h0, h.ne, h.h1, h.h2, h.hn⟩
  rcases hl g e2 with e | e
  · exact h.ap g e1 e
  · have := own_lt7 h.oy e1
    omega
/-- A number stored in gone. -/
theorem MY.num (h : MY w0 ba bn b1 b2 ah vy vg Y G n W) (m : Int) : MY w0 ba bn b1 b2 ah vy vg Y G m (W.setCell ⟨bn, 0, none⟩ (.int .i64 m)) := by
  have hS : Off (fun k => k = bn) W (W.setCell ⟨bn, 0, none⟩ (.int .i64 m)) := Off.of_grown (grown_set (w := W) (g := bn) (o := 0) (.int .i64 m)) (fun g hg => by cases hg; rfl)
  have h4 : Below w0.heap.size W (W.setCell ⟨bn, 0, none⟩ (.int .i64 m)) := hS.below (fun k hk => by subst hk; exact h.hn) h.bel.size
  exact ⟨h.bel.trans h4, h.cy.off hS (cb_type h.cy h.cn (by decide)), h.cg.off hS (cb_type h.cg h.cn (by decide)), heap_set _ h.cn, h.ca.off hS (cb_type h.ca h.cn (by decide)), owns_kept h.oy fun g hg => hS.block g (own_lt7 h.oy hg) (fun e => cb_row h.cn h.oy (by decide) (by rw [hg, e])), owns_kept h.og fun g hg => hS.block g (own_lt7 h.og hg) (fun e => cb_row h.cn h.og (by decide) (by rw [hg, e])), h.ap, h.g0, h.ne, h.h1, h.h2, h.hn⟩
end
end Go.Proofs.Ytnggnfhaokkcmaa
