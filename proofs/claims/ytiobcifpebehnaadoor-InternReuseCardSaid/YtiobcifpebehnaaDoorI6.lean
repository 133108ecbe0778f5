
import Derived.Test.YtiobcifpebehnaaDoorI5
import Derived.Test.YtiobcifpebehnaaDoorS5
/- I6: a table in memory -/
namespace Go.Proofs.YtiobcifpebehnaaDoor
open Go.RowKit
set_option linter.unusedVariables false

/-- A place as it lies: its set's slice, and how often it is held. -/
structure HV where
  a : Option Addr
  l : Nat
  c : Nat
  n : Nat
@[reducible] def HV.v (x : HV) : Value := .slice x.a x.l x.c
@[reducible] def hvc (x : HV) : List Value := [.slice x.a x.l x.c, .int .i64 x.n]
@[reducible] def noHV : HV := ⟨none, 0, 0, 0⟩
theorem hvc_one (x : HV) : ∀ u ∈ hvc x, u.oneCell' = true := by
  intro u hu
  simp at hu
  rcases hu with rfl | rfl <;> rfl
def heldC : Cel HV := ⟨hvc, 2, fun _ => rfl, hvc_one, by decide⟩

theorem owns_kept {w w' : World} {base : Nat} {e : TypeId} {size : Nat} {v : Value} {n : Nat} {xs : List Value} (h : w.ownsRow base e size v n xs) (hk : ∀ g, v.ownBlock = some g → w'.heap[g]? = w.heap[g]?) : w'.ownsRow base e size v n xs := by
  refine ⟨h.1, ?_⟩
  rcases h.2 with hn | ⟨g, cap, cur, rfl, hB, hg, rest⟩
  · exact .inl hn
  · exact .inr ⟨g, cap, cur, rfl, hB, (hk g rfl).trans hg, rest⟩
theorem map_kept {H : Type} {w w' : World} {P : Program} {k : TypeId} {R : Value → Option (DataW H × List MemPlace)} {b n : Nat} {D : DataW H} (h : w.ownsMap P k R b n D) (hk : w'.heap[b]? = w.heap[b]?) : w'.ownsMap P k R b n D := by
  obtain ⟨es, clock, hb, rest⟩ := h
  exact ⟨es, clock, hk.trans hb, rest⟩
theorem own_tag {w : World} {base : Nat} {e : TypeId} {size : Nat} {v : Value} {n : Nat} {xs : List Value} (h : w.ownsRow base e size v n xs) {g : Nat} (hg : v.ownBlock = some g) : ∃ cur, w.heap[g]? = some (.cells cur e (0, 0)) := by
  rcases h.2 with ⟨rfl, _⟩ | ⟨g', cap, cur, rfl, hB, hh, rest⟩
  · simp [Value.ownBlock] at hg
  · simp [Value.ownBlock] at hg; subst hg; exact ⟨cur, hh⟩
theorem own_lt7 {w : World} {base : Nat} {e : TypeId} {size : Nat} {v : Value} {n : Nat} {xs : List Value} (h : w.ownsRow base e size v n xs) {g : Nat} (hg : v.ownBlock = some g) : g < w.heap.size := by
  obtain ⟨cur, hc⟩ := own_tag h hg
  exact (Array.getElem?_eq_some_iff.1 hc).1
theorem lt_of_heap {w : World} {k : Nat} {o : Obj} (h : w.heap[k]? = some o) : k < w.heap.size := (Array.getElem?_eq_some_iff.1 h).1

/-- A table in memory: its block, its state's, the map's, the schema's map; what the rows are; all of it in blocks of S, from B on. -/
structure TbM (B : Nat) (S : Nat → Prop) (tb st mb : Nat) (m : Option Nat) (sv fv : Value) (hs : List HV) (D : DataW Unit) (T : TabS) (n : Nat) (w : World) : Prop where
  ht : w.heap[tb]? = some (.cells #[.pointer (some ⟨st, 0, none⟩)] 54 (0, 0))
  hst : w.heap[st]? = some (.cells #[.map m, .map (some mb), sv, fv] 83 (0, 0))
  good : Good T.ks
  hm : (m = none ∧ T.ks = []) ∨ ∃ sb, m = some sb ∧ sb < B ∧ w.ownsMap Tryd.prog 3 keyElem sb 64 (dat T.ks)
  hmb : w.ownsMap Tryd.prog 9 (plainElem Tryd.prog 3) mb (n + 1) D
  hsv : w.ownsRow 0 88 2 sv T.es.length (fl heldC hs)
  hfv : w.ownsRow 0 3 1 fv T.free.length (T.free.map fun i => Value.int .i64 (i : Nat))
  hrow : ∀ (i : Nat) (x : HV), hs[i]? = some x → w.ownsRow 0 47 5 x.v (T.set i).length (fl attC (T.set i))
  hn : ∀ (i : Nat) (x : HV), hs[i]? = some x → x.n = T.times i
  sT : S tb
  sSt : S st
  sMb : S mb
  sSv : ∀ g, sv.ownBlock = some g → S g
  sFv : ∀ g, fv.ownBlock = some g → S g
  sRow : ∀ (i : Nat) (x : HV), hs[i]? = some x → ∀ g, x.v.ownBlock = some g → S g
  sB : ∀ k, S k → B ≤ k
  hB : B ≤ w.heap.size
  ids : Ids D T
  ok : T.Ok
  le : T.Le n

section
variable {B : Nat} {S : Nat → Prop} {tb st mb : Nat} {m : Option Nat} {sv fv : Value} {hs : List HV} {D : DataW Unit} {T : TabS} {n : Nat} {w : World}
theorem TbM.len (h : TbM B S tb st mb m sv fv hs D T n w) : hs.length = T.es.length := by
  have := h.hsv.1
  rw [fl_len] at this
  exact Nat.eq_of_mul_eq_mul_right (show 0 < 2 by decide) this
/-- What others do, it abides. -/
theorem TbM.kept (h : TbM B S tb st mb m sv fv hs D T n w) {w' : World} (hz : w.heap.size ≤ w'.heap.size) (hk : ∀ k, k < w.heap.size → k < B ∨ S k → w'.heap[k]? = w.heap[k]?) : TbM B S tb st mb m sv fv hs D T n w' := by
  have hw : ∀ {base : Nat} {e : TypeId} {size : Nat} {v : Value} {l : Nat} {xs : List Value}, w.ownsRow base e size v l xs → (∀ g, v.ownBlock = some g → S g) → w'.ownsRow base e size v l xs := fun ho hS =>
    owns_kept ho (fun g hg => hk g (own_lt7 ho hg) (.inr (hS g hg)))
  refine ⟨(hk tb (lt_of_heap h.ht) (.inr h.sT)).trans h.ht, (hk st (lt_of_heap h.hst) (.inr h.sSt)).trans h.hst, h.good, ?_, map_kept h.hmb (hk mb h.hmb.lt (.inr h.sMb)), hw h.hsv h.sSv, hw h.hfv h.sFv, fun i x hx => hw (h.hrow i x hx) (h.sRow i x hx),
    h.hn, h.sT, h.sSt, h.sMb, h.sSv, h.sFv, h.sRow, h.sB, by have := h.hB; omega, h.ids, h.ok, h.le⟩
  rcases h.hm with h0 | ⟨sb, h1, h2, h3⟩
  · exact .inl h0
  · exact .inr ⟨sb, h1, h2, map_kept h3 (hk sb h3.lt (.inl h2))⟩
theorem TbM.below (h : TbM B S tb st mb m sv fv hs D T n w) {w' : World} (hb : Below w.heap.size w w') : TbM B S tb st mb m sv fv hs D T n w' := h.kept hb.size (fun k hk _ => hb.block k hk)
theorem TbM.mono (h : TbM B S tb st mb m sv fv hs D T n w) {S' : Nat → Prop} (hS : ∀ k, S k → S' k) (hB : ∀ k, S' k → B ≤ k) : TbM B S' tb st mb m sv fv hs D T n w :=
  ⟨h.ht, h.hst, h.good, h.hm, h.hmb, h.hsv, h.hfv, h.hrow, h.hn, hS _ h.sT, hS _ h.sSt, hS _ h.sMb, fun g hg => hS _ (h.sSv g hg), fun g hg => hS _ (h.sFv g hg), fun i x hx g hg => hS _ (h.sRow i x hx g hg), hB, h.hB, h.ids, h.ok, h.le⟩
theorem TbM.cells (h : TbM B S tb st mb m sv fv hs D T n w) : w.cell? ⟨tb, 0, none⟩ = some (.pointer (some ⟨st, 0, none⟩)) ∧ w.cell? ⟨st, 0, none⟩ = some (.map m) ∧ w.cell? ⟨st, 1, none⟩ = some (.map (some mb)) ∧ w.cell? ⟨st, 2, none⟩ = some sv ∧ w.cell? ⟨st, 3, none⟩ = some fv := by
  refine ⟨?_, ?_, ?_, ?_, ?_⟩
  · rw [cell_of_row w tb 0 _ _ _ h.ht]; rfl
  · rw [cell_of_row w st 0 _ _ _ h.hst]; rfl
  · rw [cell_of_row w st 1 _ _ _ h.hst]; rfl
  · rw [cell_of_row w st 2 _ _ _ h.hst]; rfl
  · rw [cell_of_row w st 3 _ _ _ h.hst]; rfl
/-- Its row of places: a slice of a block of its own. -/
theorem TbM.form (h : TbM B S tb st mb m sv fv hs D T n w) : ∃ g cap, sv = .slice (some ⟨g, 0, none⟩) T.es.length cap ∧ g < w.heap.size ∧ T.es.length ≤ cap := by
  obtain ⟨g, cap, rfl, -, hg⟩ := h.hsv.form h.ok.pos
  refine ⟨g, cap, rfl, hg, ?_⟩
  rcases h.hsv.2 with ⟨hn, _⟩ | ⟨g', cap', cur, hv, _, _, hc, _⟩
  · cases hn
  · injection hv with _ _ e; subst e; exact hc
/-- A place's two cells. -/
theorem TbM.place {g cap : Nat} (h : TbM B S tb st mb m (.slice (some ⟨g, 0, none⟩) T.es.length cap) fv hs D T n w) {i : Nat} (hi : i < T.es.length) :
    ∃ x, hs[i]? = some x ∧ w.cell? ⟨g, i * 2, none⟩ = some (.slice x.a x.l x.c) ∧ w.cell? ⟨g, i * 2 + 1, none⟩ = some (.int .i64 (T.times i : Nat)) ∧ w.frozen? ⟨g, i * 2, none⟩ = false ∧ w.frozen? ⟨g, i * 2 + 1, none⟩ = false ∧ w.ownsRow 0 47 5 (.slice x.a x.l x.c) (T.set i).length (fl attC (T.set i)) := by
  have hl := h.len
  have hlt : i < hs.length := by omega
  have hx : hs[i]? = some hs[i] := List.getElem?_eq_getElem hlt
  have ho := h.hsv
  rw [← hl] at ho
  have hR := (Row.of_owns (C := heldC) ho).1
  obtain ⟨b, off, ha, -, -, -, -, hat, -⟩ := Row.opened hR (by omega)
  obtain ⟨rfl, rfl⟩ : b = g ∧ off = 0 := by injection ha with e; injection e with e1 e2; exact ⟨e1.symm, e2.symm⟩
  have c0 := hat i hlt 0 _ rfl
  have c1 := hat i hlt 1 _ rfl
  rw [Nat.zero_add] at c0 c1
  have hf : ∀ o, w.frozen? ⟨b, o, none⟩ = false := fun o => by
    obtain ⟨cur, hc⟩ := own_tag h.hsv (g := b) rfl
    simp [World.frozen?, hc]
  refine ⟨hs[i], hx, c0, ?_, hf _, hf _, h.hrow i _ hx⟩
  rw [← h.hn i _ hx]
  exact c1
end

theorem iszero_any {B : Nat} {S : Nat → Prop} {tb st mb : Nat} {m : Option Nat} {sv fv : Value} {hs : List HV} {D : DataW Unit} {T : TabS} {n : Nat} (w : World) (h : TbM B S tb st mb m sv fv hs D T n w) :
    Calls Tryd.prog 30 #[.pointer (some ⟨tb, 0, none⟩)] w fun e w' => e = .returned (.bool false) ∧ w' = w := by
  obtain ⟨c0, -⟩ := h.cells
  clear h
  go_enter Tryd.func30, Tryd.ntmps30
  go_wp2
  go_ret
  exact ⟨rfl, rfl⟩
end Go.Proofs.YtiobcifpebehnaaDoor
