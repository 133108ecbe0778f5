
import Derived.Test.YtmbjjaflgdfihaaN8
import Derived.Maps.RangeWalk
/- N9: the reference's Copy -/
namespace Go.Proofs.Ytmbjjaflgdfihaa
open Go.RowKit
set_option linter.unusedVariables false
set_option maxRecDepth 100000

/-- append(out, src...) as one operation: out the call's own, src whatever slice, nil too. -/
theorem wp_append_rowC {α : Type} {C : Cel α} {P : Program} {w : World} {o : Oper} {a : Act} {K : Act → World → Prop} {Q : Exit → Act → World → Prop} (s x : Operand) (t : TypeId)
    (ho : o.op = .call { callee := .builtin .append, args := #[s, x], argTypes := #[t, t] })
    (base : Nat) (e : TypeId) (i : TypeInfo) (z : Value) (bytes : Nat) (ht : P.underlying t = some (.slice e)) (hi : P.info? e = some i) (hz : i.zero = some z)
    (hsize : i.size = C.m) (hby : i.bytes = bytes) (hzs : z.cells.size = C.m)
    (v : Value) (n : Nat) (cs : List Value) (hs : a.eval s = v) (hown : w.ownsRow base e C.m v n cs)
    (u : Value) (ys : List α) (hx : a.eval x = u) (hu : Row C w u ys)
    (h63 : n + ys.length ≤ maxLen) (hbytes : (n + ys.length) * bytes ≤ 140737488355328) (hbase : base ≤ w.heap.size)
    (h : ∀ v' w', w'.ownsRow base e C.m v' (n + ys.length) (cs ++ fl C ys) → w.grownBy w' v.ownBlock → K (a.put o.dst v') w') : o.wp P a w K Q := by
  rcases hu with ⟨ad, cap, rfl, rfl, hm, hc0⟩ | ⟨b, off, cap, rfl, h0, h1, hm, hc⟩
  · cases ad with
    | none =>
      obtain rfl := hc0 rfl
      have hrun := run_append_owned_none (P := P) (w := w) base t o.type e i C.m ht hi v n cs hown
      unfold Oper.wp
      simp [execOp, ho, resolve, invoke, builtin, hs, hx, hrun, Result.andThen]
      exact h v w (by simpa [fl_nil] using hown) (grown_refl _ _)
    | some ad =>
      exact wp_append_own w s x t ho base e i z C.m bytes ht hi hz hsize hby hzs C.pos v n cs hs hown ad 0 cap [] hx (by simp) (by intro j u hj; simp at hj) (by intro u hu; cases hu) h63 hbytes hbase (fun v' w' q1 q2 _ => h v' w' (by simpa [fl_nil] using q1) q2)
  · refine wp_append_own w s x t ho base e i z C.m bytes ht hi hz hsize hby hzs C.pos v n cs hs hown ⟨b, off, none⟩ ys.length cap (fl C ys) hx (fl_len C ys) ?_ (fl_ones C ys) h63 hbytes hbase (fun v' w' q1 q2 _ => h v' w' q1 q2)
    intro j u hj
    rw [Go.WideShapes.add_plain]
    exact hc j u hj
/-- T{} as one operation. -/
theorem wp_empty {P : Program} {o : Oper} {a : Act} {w : World} {K : Act → World → Prop} {Q : Exit → Act → World → Prop} (t e : TypeId) (m : Nat) (ho : o.op = .buildSlice t 0 #[]) (hu : P.underlying t = some (.slice e)) (ie : TypeInfo) (hie : P.info? e = some ie)
    (h : ∀ q W', W'.ownsRow w.heap.size e m (.slice (some ⟨q, 0, none⟩) 0 0) 0 [] → Below w.heap.size w W' → K (a.put o.dst (.slice (some ⟨q, 0, none⟩) 0 0)) W') : o.wp P a w K Q := by
  have hrun : (execOp a.eval o).run P w = .ok (.value (.slice (some ⟨w.heap.size, 0, none⟩) 0 0)) (w.alloc (.cells #[] e)) := by
    have e0 : Array.range 0 = #[] := by simp [Array.range]
    simp [execOp, ho, Instr.buildSlice, run_underlying hu, sizeOf, typeInfo, hie, newRow, Instr.fill, e0]
  unfold Oper.wp
  rw [hrun]
  exact h _ _ (owns_none w e m) (kbelow_one w _)
theorem wp_do {P : Program} {op : Oper} {a : Act} {w w' : World} {v : Value} {K : Act → World → Prop} {Q : Exit → Act → World → Prop} (hv : (execOp a.eval op).run P w = .ok (.value v) w') (h : K (a.put op.dst v) w') : op.wp P a w K Q := by
  unfold Oper.wp
  rw [hv]
  exact h
theorem Ints.rowC {w : World} {v : Value} {xs : List Int} (h : Ints .i32 w v xs) : Row intC w v xs := by
  rcases h with h | ⟨b, off, cap, hv, h0, h1, h2, h3⟩
  · exact .inl h
  · refine .inr ⟨b, off, cap, hv, h0, h1, h2, fun j u hu => ?_⟩
    rw [fl_intC] at hu
    have hj : j < xs.length := by have := (List.getElem?_eq_some_iff.1 hu).1; simpa using this
    rw [h3 j hj, ← hu]
    simp [List.getD, hj]
theorem own_far2 {w w' : World} {B B' : Nat} {e e' : TypeId} {s s' n n' : Nat} {u u' : Value} {xs ys : List Value} (h : w.ownsRow B e s u n xs) (h' : w.ownsRow B' e' s' u' n' ys) (hne : e ≠ e') (hg : w.grownBy w' u'.ownBlock) : w'.ownsRow B e s u n xs :=
  owns_kept h fun g hgb => hg.block g (own_lt7 h hgb) (fun e => tag_ne h h' hne hgb e.symm)
/-- What stays while an op is copied. -/
structure CK (wr : World) (z : Oz) (W : World) : Prop where
  c : OAt wr.heap.size 0 z W
  b : Below wr.heap.size wr W
  hi : wr.heap.size < W.heap.size
theorem CK.below {wr W W' : World} {z : Oz} (h : CK wr z W) (hb : Below W.heap.size W W') : CK wr z W' := ⟨h.c.below hb, below_add h.b hb h.b.size, Nat.lt_of_lt_of_le h.hi hb.size⟩
theorem CK.grown {wr W W' : World} {z : Oz} {B n m : Nat} {e : TypeId} {v : Value} {xs : List Value} (h : CK wr z W) (ho : W.ownsRow B e m v n xs) (hB : wr.heap.size < B) (hg : W.grownBy W' v.ownBlock) : CK wr z W' := by
  have hv : ∀ g, v.ownBlock = some g → wr.heap.size < g := fun g hgb => by have := own_base ho hgb; omega
  exact ⟨h.c.off (Off.of_grown (S := fun k => v.ownBlock = some k) hg (fun g hg => hg)) (fun hh => by have := hv _ hh; omega), h.b.grown hg h.b.size (fun g hgb => by have := hv g hgb; omega), Nat.lt_of_lt_of_le h.hi hg.size⟩
theorem CK.start (wr : World) (z : Oz) : CK wr z (wr.alloc (.cells z.cs 51)).drew := ⟨(OAt.new wr z _).below (Below.refl _ _).drew, (kbelow_one wr _).drew, by simp⟩

/-- The row's growth leaves the op's own variable as it was. -/
theorem kept_box {B : Nat} {w wr W w' : World} {zs ys : List Oz} {k : Nat} {v : Value} {z : Oz} (h : CpR B w zs k v wr ys) (hk : CK wr z W) (hg : W.grownBy w' v.ownBlock) : OAt wr.heap.size 0 z w' :=
  hk.c.off (Off.of_grown (S := fun j => v.ownBlock = some j) hg (fun g hg => hg)) (fun hh => by have := own_lt7 h.own.row hh; omega)

end Go.Proofs.Ytmbjjaflgdfihaa
