
import Derived.Test.YtnggnfhaokkcmaaN26
/- N29: the reference's out -/
namespace Go.Proofs.Ytnggnfhaokkcmaa
open Go.RowKit
set_option linter.unusedVariables false
set_option maxRecDepth 100000

/-- append(out, src...), where src has an element: out's row lies where it lay, or in a new block. -/
theorem step_append_rowR {α : Type} {C : Cel α} {P : Program} {w : World} {o : Oper} {a : Act} {ops : Array Oper} {K : Act → World → Prop} {Q : Exit → Act → World → Prop} {E : Prop} (hgd : o.guard = none) (s x : Operand) (t : TypeId)
    (ho : o.op = .call { callee := .builtin .append, args := #[s, x], argTypes := #[t, t] })
    (base : Nat) (e : TypeId) (i : TypeInfo) (z : Value) (bytes : Nat) (ht : P.underlying t = some (.slice e)) (hi : P.info? e = some i) (hz : i.zero = some z)
    (hsize : i.size = C.m) (hby : i.bytes = bytes) (hzs : z.cells.size = C.m)
    (v : Value) (n : Nat) (cs : List Value) (hs : a.eval s = v) (hown : w.ownsRow base e C.m v n cs)
    (u : Value) (ys : List α) (hx : a.eval x = u) (hu : Row C w u ys) (h0 : 0 < ys.length)
    (h63 : n + ys.length ≤ maxLen) (hbytes : (n + ys.length) * bytes ≤ 140737488355328) (hbase : base ≤ w.heap.size)
    (h : ∀ g cap w', w'.ownsRow base e C.m (.slice (some ⟨g, 0, none⟩) (n + ys.length) cap) (n + ys.length) (cs ++ fl C ys) → w.grownBy w' v.ownBlock → K (a.put o.dst (.slice (some ⟨g, 0, none⟩) (n + ys.length) cap)) w') :
    if Region.wanted o (yielded ops a.tmps) = true then Oper.wp P o a w K Q else E := by
  have hw : Region.wanted o (yielded ops a.tmps) = true := by simp [Region.wanted, hgd]
  rw [if_pos hw]
  rcases hu with ⟨ad, cap, rfl, rfl, hm, hc0⟩ | ⟨b, off, cap, rfl, -, h1, hm, hc⟩
  · simp at h0
  · refine wp_append_lies w s x t ho base e i z C.m bytes ht hi hz hsize hby hzs C.pos v n cs hs hown ⟨b, off, none⟩ ys.length cap (fl C ys) hx (fl_len C ys) ?_ (fl_ones C ys) h0 h63 hbytes hbase _ rfl (fun g cap w' q1 q2 q3 q4 => h g cap w' q1 q2)
    intro j u hj
    rw [Go.WideShapes.add_plain]
    exact hc j u hj
/-- An op of the reference's out: its runes lie where they came in, or in a row of the call's own; its set and patch where they came in. -/
structure OpG (w0 W : World) (z : Oz) : Prop where
  r : Ints .i32 w0 z.rv z.rs ∨ W.ownsRow w0.heap.size 21 1 z.rv z.rs.length (z.rs.map (Value.int .i32))
  s : Arow w0 z.sv z.st
  p : Crow w0 z.pv z.pt
  hs : z.st.length ≤ 16777216
  hp : z.pt.length ≤ 16777216
/-- The reference's out. -/
structure GO (w0 : World) (B : Nat) (v : Value) (zs : List Oz) (W : World) : Prop where
  bel : Below w0.heap.size w0 W
  hB : w0.heap.size ≤ B
  own : W.ownsRow B 34 5 v zs.length (fl ozC zs)
  el : ∀ z ∈ zs, OpG w0 W z
section
variable {w0 W W2 w3 : World} {B B2 n : Nat} {v v3 : Value} {zs ys : List Oz} {z : Oz} {cs : List Value}
theorem OpG.ok (h : OpG w0 W z) (hb : Below w0.heap.size w0 W) : OpOk W z :=
  ⟨by rcases h.r with h | h
      · exact h.below hb
      · exact (Ints.of_owns h).1, h.s.below hb (Nat.le_refl _), h.p.below hb (Nat.le_refl _)⟩
theorem OpG.of (h : OpOk w0 z) (hs : Sm z) (W : World) : OpG w0 W z := ⟨.inl h.r, h.s, h.p, hs.s, hs.p⟩
theorem OpG.below (h : OpG w0 W z) (hb : Below W.heap.size W W2) : OpG w0 W2 z := ⟨h.r.imp id (fun h => owns_below h hb), h.s, h.p, h.hs, h.hp⟩
theorem OpG.grown (h : OpG w0 W z) (ho : W.ownsRow B 34 5 v n cs) (hg : W.grownBy w3 v.ownBlock) : OpG w0 w3 z := ⟨h.r.imp id (fun h => own_far2 h ho (by decide) hg), h.s, h.p, h.hs, h.hp⟩
theorem GO.below (h : GO w0 B v zs W) (hb : Below W.heap.size W W2) : GO w0 B v zs W2 := ⟨below_add h.bel hb h.bel.size, h.hB, owns_below h.own hb, fun z hz => (h.el z hz).below hb⟩
theorem GO.orow (h : GO w0 B v zs W) : Orow W v zs := ⟨(Row.of_owns (C := ozC) h.own).1, fun z hz => (h.el z hz).ok h.bel⟩
theorem GO.nil (hb : Below w0.heap.size w0 W) (hB : w0.heap.size ≤ B) : GO w0 B (.slice none 0 0) [] W := ⟨hb, hB, World.ownsRow_nil _ _ _ _, by simp⟩
theorem GO.mono (h : GO w0 B v zs W) (h1 : B2 ≤ B) (h2 : w0.heap.size ≤ B2) : GO w0 B2 v zs W := ⟨h.bel, h2, owns_mono h.own h1, h.el⟩
theorem fl_app3 (a b : List Oz) : fl ozC a ++ fl ozC b = fl ozC (a ++ b) := (fl_app ozC a b).symm
/-- Ops put at its end. -/
theorem GO.push (h : GO w0 B v zs W) (hg : W.grownBy w3 v.ownBlock) (hn : zs.length = n) (ho : w3.ownsRow B 34 5 v3 (n + ys.length) (fl ozC zs ++ fl ozC ys)) (hel : ∀ z ∈ ys, OpG w0 W z) : GO w0 B v3 (zs ++ ys) w3 := by
  subst hn
  have hO : Off (fun k => v.ownBlock = some k) W w3 := Off.of_grown hg (fun g hg => hg)
  refine ⟨h.bel.trans (hO.below (fun k hk => Nat.le_trans h.hB (own_base h.own hk)) h.bel.size), h.hB, by rw [List.length_append, ← fl_app3]; exact ho, fun z hz => ?_⟩
  rcases List.mem_append.1 hz with hz | hz
  · exact (h.el z hz).grown h.own hg
  · exact (hel z hz).grown h.own hg
/-- One of its cells written. -/
theorem GO.set {g c j q : Nat} {u : Value} (h : GO w0 B (.slice (some ⟨g, 0, none⟩) n c) zs W) (hn : zs.length = n) (hj : j < zs.length) (hz : OpG w0 W z) (hf : (fl ozC zs).set (j * 5 + q) u = fl ozC (zs.set j z)) : GO w0 B (.slice (some ⟨g, 0, none⟩) n c) (zs.set j z) (W.setCell ⟨g, j * 5 + q, none⟩ u) := by
  subst hn
  have hg := grown_set (w := W) (g := g) (o := j * 5 + q) u
  have hO : Off (fun k => k = g) W (W.setCell ⟨g, j * 5 + q, none⟩ u) := Off.of_grown hg (fun k hk => by cases hk; rfl)
  have hgb : B ≤ g := own_base h.own rfl
  refine ⟨h.bel.trans (hO.below (fun k hk => by subst hk; exact Nat.le_trans h.hB hgb) h.bel.size), h.hB, ?_, fun y hy => ?_⟩
  · rw [List.length_set, ← hf]
    exact owns_set h.own u
  · have : OpG w0 W y := by
      rcases List.mem_or_eq_of_mem_set hy with hy | rfl
      · exact h.el y hy
      · exact hz
    exact this.grown h.own hg
/-- Its op at a place. -/
theorem GO.at (h : GO w0 B v zs W) (h0 : 0 < zs.length) : ∃ g c, v = .slice (some ⟨g, 0, none⟩) zs.length c ∧ B ≤ g ∧ zs.length ≤ c ∧ c ≤ maxLen ∧ (∀ W2, Below W.heap.size W W2 → ∀ j (hj : j < zs.length), OAt g (j * 5) zs[j] W2 ∧ ∀ o, W2.frozen? ⟨g, o, none⟩ = false) := by
  obtain ⟨a, c, rfl, ha, -⟩ := own_shape h.own
  obtain ⟨b, off, e, -, hc, hm, hb, hat⟩ := h.orow.row.ats h0
  rcases ha with rfl | ⟨g, rfl⟩
  · cases e
  · injection e with e
    injection e with e1 e2
    subst e1 e2
    refine ⟨_, c, rfl, own_base h.own rfl, hc, hm, fun W2 hb2 j hj => ⟨?_, fun o => ?_⟩⟩
    · have := (hat j hj).below hb2
      rwa [Nat.zero_add] at this
    · obtain ⟨cur, hcur⟩ := own_tag h.own rfl
      have : Cb _ 34 cur W := hcur
      exact (this.below hb2).frozen o
end

theorem take_oz {zs : List Oz} {k : Nat} (hk : k < zs.length) : (zs.take (k + 1)).map Oz.o = (zs.take k).map Oz.o ++ [zs[k].o] := by
  rw [List.take_succ_eq_append_getElem hk, List.map_append]; rfl
theorem bel_grown {w w1 w2 : World} {e : TypeId} {m n : Nat} {v : Value} {xs : List Value} (hb : Below w.heap.size w w1) (ho : w1.ownsRow w.heap.size e m v n xs) (hg : w1.grownBy w2 v.ownBlock) : Below w.heap.size w w2 :=
  hb.trans ((Off.of_grown (S := fun g => v.ownBlock = some g) hg (fun g hg => hg)).below (fun k hk => own_base ho hk) hb.size)
theorem bel_set {B g o : Nat} {w W : World} (h : Below B w W) (hB : B ≤ g) (hs : B ≤ w.heap.size) (u : Value) : Below B w (W.setCell ⟨g, o, none⟩ u) :=
  h.trans ((Off.of_grown (S := fun k => k = g) (grown_set (w := W) (g := g) (o := o) u) (fun k hk => by cases hk; rfl)).below (fun k hk => by subst hk; exact hB) (Nat.le_trans hs h.size))
theorem set_snoc (zs : List Oz) (l l2 : Oz) : (zs ++ [l]).set zs.length l2 = zs ++ [l2] := by simp
/-- The last op's runes laid anew. -/
@[reducible] def runesG (l : Oz) (g c : Nat) (rs : List Int) : Oz := { l with ra := some ⟨g, 0, none⟩, rc := c, rs := rs }
theorem GO.runes {w0 W : World} {B g g4 c cap n m : Nat} {zs : List Oz} {l : Oz} {rs : List Int} (h : GO w0 B (.slice (some ⟨g, 0, none⟩) n c) (zs ++ [l]) W) (hn : (zs ++ [l]).length = n) (hm : zs.length = m) {B2 : Nat} (hB : w0.heap.size ≤ B2) {p : Nat} (hp : rs.length = p) (ho : W.ownsRow B2 21 1 (.slice (some ⟨g4, 0, none⟩) p cap) p (rs.map (Value.int .i32))) :
    GO w0 B (.slice (some ⟨g, 0, none⟩) n c) (zs ++ [runesG l g4 cap rs]) (W.setCell ⟨g, m * 5 + 2, none⟩ (.slice (some ⟨g4, 0, none⟩) p cap)) := by
  subst hm hp
  have hl := h.el l (by simp)
  have hj : zs.length < (zs ++ [l]).length := by simp
  have e : (zs ++ [l])[zs.length] = l := by simp
  have := h.set hn hj (z := runesG l g4 cap rs) (q := 2) (u := .slice (some ⟨g4, 0, none⟩) rs.length cap) ⟨.inr (owns_mono ho hB), hl.s, hl.p, hl.hs, hl.hp⟩ (fl_turn hj 2 (by decide) _ _ (by rw [e]; rfl))
  rwa [set_snoc] at this
theorem nil_or_snoc (ys : List Oz) : ys = [] ∨ ∃ zs l, ys = zs ++ [l] := by
  rcases List.eq_nil_or_concat ys with h | ⟨zs, l, h⟩
  · exact .inl h
  · exact .inr ⟨zs, l, by rw [h, List.concat_eq_append]⟩
/-! ### what a gap's inserts come to -/
theorem sumR_joinG (o : Opn) (G : List Opn) : sumR (joinG o G) = sumR G + o.rs.length ∧ (joinG o G).length ≤ G.length + 1 := by
  cases G with
  | nil => simp [joinG, sumR]
  | cons l r =>
    by_cases h : l.st = o.st
    · rw [joinG_yes r h, sumR_cons, sumR_cons]
      simp only [List.length_append, List.length_cons]
      omega
    · rw [joinG_no r h, sumR_cons]
      simp only [List.length_cons]
      omega
theorem sumR_insO (g : List Opn) : sumR (insO g) ≤ sumR g := by
  induction g with
  | nil => simp [insO, sumR]
  | cons x r ih =>
    by_cases h : x.k = 3
    · have e : insO (x :: r) = insO r := by simp [insO, h]
      rw [e, sumR_cons]; omega
    · have e : insO (x :: r) = x :: insO r := by simp [insO, h]
      rw [e, sumR_cons, sumR_cons]; omega
theorem sumR_joinAll (g : List Opn) : sumR (joinAll g) = sumR g ∧ (joinAll g).length ≤ g.length := by
  induction g using snoc_ind with
  | nil => simp [joinAll]
  | append_singleton g x ih =>
    rw [joinAll_snoc, sumR_app]
    obtain ⟨h1, h2⟩ := sumR_joinG x (joinAll g)
    refine ⟨by rw [h1, ih.1]; simp [sumR], ?_⟩
    simp only [List.length_append, List.length_cons, List.length_nil]
    omega
theorem insO_len (g : List Opn) : (insO g).length ≤ g.length := List.length_filter_le _ _
end Go.Proofs.Ytnggnfhaokkcmaa
