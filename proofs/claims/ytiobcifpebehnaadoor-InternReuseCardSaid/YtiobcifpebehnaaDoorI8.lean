
import Derived.Test.YtiobcifpebehnaaDoorI7
/- I8: a place is turned; Hold -/
namespace Go.Proofs.YtiobcifpebehnaaDoor
open Go.RowKit
set_option linter.unusedVariables false

/-- But for blocks of S, what lay there lies there. -/
structure Off (S : Nat → Prop) (w w' : World) : Prop where
  os : w'.os = w.os
  tape : w'.tape = w.tape
  output : w'.output = w.output
  size : w.heap.size ≤ w'.heap.size
  block : ∀ k, k < w.heap.size → ¬ S k → w'.heap[k]? = w.heap[k]?
theorem Off.refl (S : Nat → Prop) (w : World) : Off S w w := ⟨rfl, rfl, rfl, Nat.le_refl _, fun _ _ _ => rfl⟩
theorem Off.trans {S : Nat → Prop} {a b c : World} (h : Off S a b) (k : Off (fun i => S i ∨ a.heap.size ≤ i) b c) : Off S a c :=
  ⟨k.os.trans h.os, k.tape.trans h.tape, k.output.trans h.output, Nat.le_trans h.size k.size, fun i hi hS =>
    (k.block i (Nat.lt_of_lt_of_le hi h.size) (fun hh => by rcases hh with hh | hh; exact hS hh; omega)).trans (h.block i hi hS)⟩
theorem Off.seq {S : Nat → Prop} {a b c : World} (h : Off S a b) (k : Off S b c) : Off S a c :=
  ⟨k.os.trans h.os, k.tape.trans h.tape, k.output.trans h.output, Nat.le_trans h.size k.size, fun i hi hS => (k.block i (Nat.lt_of_lt_of_le hi h.size) hS).trans (h.block i hi hS)⟩
theorem Off.cut {S : Nat → Prop} {a b : World} (h : Off (fun k => S k ∨ a.heap.size ≤ k) a b) : Off S a b :=
  ⟨h.os, h.tape, h.output, h.size, fun k hk hn => h.block k hk (fun hh => by rcases hh with hh | hh; exact hn hh; omega)⟩
theorem Off.mono {S S' : Nat → Prop} {a b : World} (h : Off S a b) (hS : ∀ k, S k → S' k) : Off S' a b := ⟨h.os, h.tape, h.output, h.size, fun k hk hn => h.block k hk (fun hh => hn (hS k hh))⟩
theorem Off.of_below {S : Nat → Prop} {a b : World} (h : Below a.heap.size a b) : Off S a b := ⟨h.os, h.tape, h.output, h.size, fun k hk _ => h.block k hk⟩
theorem Off.of_grown {S : Nat → Prop} {a b : World} {row : Option Nat} (h : a.grownBy b row) (hr : ∀ g, row = some g → S g) : Off S a b :=
  ⟨h.os, h.tape, h.output, h.size, fun k hk hn => h.block k hk (fun e => hn (hr k e.symm))⟩
theorem Off.below {S : Nat → Prop} {a b : World} {B : Nat} (h : Off S a b) (hS : ∀ k, S k → B ≤ k) (hB : B ≤ a.heap.size) : Below B a b :=
  ⟨h.os, h.tape, h.output, h.size, fun k hk => h.block k (by omega) (fun hh => by have := hS k hh; omega)⟩

theorem far {w w' : World} {row : Option Nat} (hg : w.grownBy w' row) {k : Nat} {o : Obj} (hk : w.heap[k]? = some o) (hr : ∀ g, row = some g → ∃ o', w.heap[g]? = some o' ∧ o' ≠ o) : w'.heap[k]? = some o := by
  rw [hg.block k (Array.getElem?_eq_some_iff.1 hk).1]
  · exact hk
  · intro e
    obtain ⟨o', h1, h2⟩ := hr k e.symm
    rw [hk] at h1
    exact h2 (Option.some.inj h1).symm
theorem own_far {w w' : World} {row : Option Nat} {base : Nat} {e : TypeId} {size : Nat} {v : Value} {n : Nat} {xs : List Value} (hg : w.grownBy w' row) (h : w.ownsRow base e size v n xs) (hr : ∀ g, row = some g → ∃ o', w.heap[g]? = some o' ∧ ∀ c, o' ≠ .cells c e (0, 0)) : w'.ownsRow base e size v n xs := by
  refine owns_kept h fun g hgb => ?_
  obtain ⟨cur, hc⟩ := own_tag h hgb
  rw [hc]
  exact far hg hc (fun g' hg' => by obtain ⟨o', h1, h2⟩ := hr g' hg'; exact ⟨o', h1, h2 _⟩)
theorem map_far {H : Type} {w w' : World} {row : Option Nat} {P : Program} {k : TypeId} {R : Value → Option (DataW H × List MemPlace)} {b n : Nat} {D : DataW H} (hg : w.grownBy w' row) (h : w.ownsMap P k R b n D) (hr : ∀ g, row = some g → ∃ c e fz, w.heap[g]? = some (.cells c e fz)) : w'.ownsMap P k R b n D := by
  refine map_kept h ?_
  obtain ⟨es, clock, hb, rest⟩ := h
  rw [hb]
  exact far hg hb (fun g' hg' => by obtain ⟨c, e, fz, h1⟩ := hr g' hg'; exact ⟨_, h1, by simp⟩)
theorem grown_set {w : World} {g o : Nat} (u : Value) : w.grownBy (w.setCell ⟨g, o, none⟩ u) (some g) :=
  ⟨rfl, rfl, rfl, by simp [World.setCell], fun k _ hk => Below.heap_setCell _ _ _ _ (fun e => hk (by rw [e]))⟩
theorem heap_set {w : World} {g o : Nat} {c : Array Value} {e : TypeId} {fz : Nat × Nat} (u : Value) (h : w.heap[g]? = some (.cells c e fz)) : (w.setCell ⟨g, o, none⟩ u).heap[g]? = some (.cells (c.setIfInBounds o u) e fz) := by
  simp [World.setCell, Array.getElem?_modify, h]
theorem owns_set {w : World} {base : Nat} {e : TypeId} {size : Nat} {g cap n : Nat} {xs : List Value} (h : w.ownsRow base e size (.slice (some ⟨g, 0, none⟩) n cap) n xs) {j : Nat} (u : Value) :
    (w.setCell ⟨g, j, none⟩ u).ownsRow base e size (.slice (some ⟨g, 0, none⟩) n cap) n (xs.set j u) := by
  refine ⟨by rw [List.length_set]; exact h.1, ?_⟩
  rcases h.2 with ⟨hn, _⟩ | ⟨g', cap', cur, hv, hB, hg, hc, hm, hs, ht⟩
  · cases hn
  · injection hv with e1 e2 e3
    injection e1 with e1
    injection e1 with e1
    subst e1 e3
    refine .inr ⟨g, cap, cur.setIfInBounds j u, rfl, hB, heap_set u hg, hc, hm, by simpa using hs, ?_⟩
    rw [Array.toList_setIfInBounds, List.take_set, ht]
theorem fl_poke : ∀ (hs : List HV) (i : Nat) (x : HV) (q : Nat), hs[i]? = some x → (fl heldC hs).set (i * 2 + 1) (.int .i64 (q : Nat)) = fl heldC (hs.set i ⟨x.a, x.l, x.c, q⟩)
  | [], i, x, q, h => by simp at h
  | y :: r, 0, x, q, h => by
    obtain rfl : y = x := by simpa using h
    rfl
  | y :: r, i + 1, x, q, h => by
    have e : (i + 1) * 2 + 1 = (i * 2 + 1) + 2 := by omega
    rw [e, fl_cons]
    show [Value.slice y.a y.l y.c, .int .i64 y.n] ++ (fl heldC r).set (i * 2 + 1) _ = _
    rw [fl_poke r i x q (by simpa using h)]
    rfl
theorem fl_puts : ∀ (hs : List HV) (i : Nat) (x : HV) (a : Option Addr) (l c : Nat), hs[i]? = some x → (fl heldC hs).set (i * 2) (.slice a l c) = fl heldC (hs.set i ⟨a, l, c, x.n⟩)
  | [], i, x, a, l, c, h => by simp at h
  | y :: r, 0, x, a, l, c, h => by
    obtain rfl : y = x := by simpa using h
    rfl
  | y :: r, i + 1, x, a, l, c, h => by
    have e : (i + 1) * 2 = (i * 2) + 2 := by omega
    rw [e, fl_cons]
    show [Value.slice y.a y.l y.c, .int .i64 y.n] ++ (fl heldC r).set (i * 2) _ = _
    rw [fl_puts r i x a l c (by simpa using h)]
    rfl

section
variable {B : Nat} {S : Nat → Prop} {tb st mb : Nat} {m : Option Nat} {sv fv : Value} {hs : List HV} {D : DataW Unit} {T : TabS} {n : Nat} {w : World}
/-- The number at a live place is turned. -/
theorem TbM.poke {g cap : Nat} (h : TbM B S tb st mb m (.slice (some ⟨g, 0, none⟩) T.es.length cap) fv hs D T n w) {i q n' : Nat} {x : HV} (hx : hs[i]? = some x) (hl : T.live i) (hq : i = 0 ∨ 0 < q) (hqn : q ≤ n') (hn : n ≤ n') :
    TbM B S tb st mb m (.slice (some ⟨g, 0, none⟩) T.es.length cap) fv (hs.set i ⟨x.a, x.l, x.c, q⟩) D (T.upd i ⟨T.set i, q⟩) n' (w.setCell ⟨g, i * 2 + 1, none⟩ (.int .i64 (q : Nat))) := by
  obtain ⟨cur, hcur⟩ := own_tag h.hsv (g := g) rfl
  have hG := grown_set (w := w) (g := g) (o := i * 2 + 1) (.int .i64 (q : Nat))
  obtain ⟨k1, k2, k3⟩ := ok_upd h.ok hl hq
  have hlen : (T.upd i ⟨T.set i, q⟩).es.length = T.es.length := by simp [TabS.upd]
  have hle := le_upd h.le hn i q hqn (T.set i)
  have hil := live_lt hl h.ok.pos
  have hr1 : ∀ e : TypeId, e ≠ 88 → ∀ g', some g = some g' → ∃ o', w.heap[g']? = some o' ∧ ∀ c, o' ≠ .cells c e (0, 0) := fun e he g' hg' => by
    cases hg'
    exact ⟨_, hcur, fun c hc => by injection hc with _ hc _; exact he hc.symm⟩
  have hr2 : ∀ g', some g = some g' → ∃ c e fz, w.heap[g']? = some (.cells c e fz) := fun g' hg' => by cases hg'; exact ⟨_, _, _, hcur⟩
  refine ⟨far hG h.ht (fun g' hg' => by cases hg'; exact ⟨_, hcur, by simp⟩), far hG h.hst (fun g' hg' => by cases hg'; exact ⟨_, hcur, by simp⟩), h.good, ?_, ?_, ?_, own_far hG h.hfv (hr1 _ (by decide)), fun j y hy => ?_, fun j y hy => ?_,
    h.sT, h.sSt, h.sMb, h.sSv, h.sFv, fun j y hy => ?_, h.sB, by have := h.hB; have := hG.size; omega, h.ids.same k2 k3 hlen rfl, k1, hle⟩
  · rcases h.hm with h0 | ⟨sb, h1, h2, h3⟩
    · exact .inl h0
    · exact .inr ⟨sb, h1, h2, map_far hG h3 hr2⟩
  · obtain ⟨es, clock, h1, h2, h3, h4⟩ := map_far hG h.hmb hr2
    exact ⟨es, clock, h1, h2, by omega, h4⟩
  · rw [hlen, ← fl_poke hs i x q hx]
    exact owns_set h.hsv _
  · rw [k3]
    rw [List.getElem?_set] at hy
    have key : ∃ z, hs[j]? = some z ∧ y.v = z.v := by
      split at hy
      · rename_i hij
        subst hij
        split at hy
        · cases hy; exact ⟨x, hx, rfl⟩
        · cases hy
      · exact ⟨y, hy, rfl⟩
    obtain ⟨z, hz, e⟩ := key
    rw [e]
    exact own_far hG (h.hrow j z hz) (hr1 _ (by decide))
  · rw [times_upd]
    rw [List.getElem?_set] at hy
    split at hy
    · rename_i hij
      subst hij
      rw [if_pos ⟨rfl, hil⟩]
      split at hy
      · cases hy; rfl
      · cases hy
    · rename_i hij
      rw [if_neg (fun hc => hij hc.1.symm)]
      exact h.hn j y hy
  · rw [List.getElem?_set] at hy
    split at hy
    · rename_i hij
      subst hij
      split at hy
      · cases hy; exact h.sRow i x hx
      · cases hy
    · exact h.sRow j y hy
end
end Go.Proofs.YtiobcifpebehnaaDoor
