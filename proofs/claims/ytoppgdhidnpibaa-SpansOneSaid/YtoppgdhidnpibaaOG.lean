
import Derived.Test.YtoppgdhidnpibaaOF
import Derived.Deep.RegionHeld
import Derived.Maps.RangeWalk
/- OG: Split -/
namespace Go.Proofs.Ytoppgdhidnpibaa
open Go.RowKit
set_option linter.unusedVariables false

def none3 : Value := .tuple #[.agg (row zero32), .agg (row zero32), .int .i64 5]

theorem fold_get (L : List Value) : ∀ (k : Nat) (Z : Array Value) (j : Nat), j < Z.size → ((L.zipIdx k).foldl (fun cs x => cs.setIfInBounds x.2 x.1) Z)[j]? = if k ≤ j ∧ j < k + L.length then L[j - k]? else Z[j]? := by
  induction L with
  | nil => intro k Z j hj; simp; intro h1 h2; omega
  | cons x L ih =>
    intro k Z j hj
    rw [List.zipIdx_cons, List.foldl_cons, ih (k + 1) _ j (by simpa using hj), List.length_cons, Array.getElem?_setIfInBounds]
    by_cases h1 : k = j
    · subst h1
      rw [if_neg (by omega), if_pos rfl, if_pos hj, if_pos (by omega), Nat.sub_self, List.getElem?_cons_zero]
    · rw [if_neg h1]
      by_cases h2 : k + 1 ≤ j ∧ j < k + 1 + L.length
      · rw [if_pos h2, if_pos (by omega), show j - k = (j - (k + 1)) + 1 by omega, List.getElem?_cons_succ]
      · rw [if_neg h2, if_neg (by omega)]
theorem fold_size (L : List (Value × Nat)) : ∀ (Z : Array Value), (L.foldl (fun cs x => cs.setIfInBounds x.2 x.1) Z).size = Z.size := by
  induction L with
  | nil => intro Z; rfl
  | cons x L ih => intro Z; rw [List.foldl_cons, ih]; simp
theorem fold_row (xs : List Int) (hx : xs.length = 32) (Z : Array Value) (hz : Z.size = 32) : Array.foldl (fun cs x => cs.setIfInBounds x.2 x.1) Z ((row xs).zipIdx 0) 0 32 = row xs := by
  have hs : (row xs).size = 32 := by rw [row_size, hx]
  have e : Array.foldl (fun (cs : Array Value) x => cs.setIfInBounds x.2 x.1) Z ((row xs).zipIdx 0) 0 32 = ((row xs).toList.zipIdx 0).foldl (fun cs x => cs.setIfInBounds x.2 x.1) Z := by
    have e2 : 32 = ((row xs).zipIdx 0).size := by simp [hs]
    rw [← Array.toList_zipIdx, e2, Array.foldl_toList]
  rw [e]
  apply Array.ext_getElem?
  intro j
  by_cases hj : j < 32
  · rw [fold_get _ 0 Z j (by omega), if_pos (by simp [row, hx]; omega)]
    simp [row]
  · rw [Array.getElem?_eq_none (by rw [fold_size, hz]; omega), Array.getElem?_eq_none (by rw [hs]; omega)]

/-! a region that draws its order, walked by hand -/
section
variable {P : Program} {l : List Oper} {Q : Exit → Act → World → Prop} {md : Region.Mode} {S : World → Prop} {fuel : Nat} {listed : Array Bool} {a : Act} {w : World}
theorem h_val {i : Nat} {oi : Oper} {v : Value} (hi : l[i]? = some oi) (hs : Region.noSelect l.toArray = true) (hf : Region.free md l.toArray listed i = true) (hr : (Region.ready md l.toArray listed).contains i = true)
    (hQ : ∀ c a w, Q (.panic c) (a.put oi.dst v) w → Q (.panic c) a w) (hw : Region.wanted oi (yielded l.toArray a.tmps) = true) (hv : ∀ w, S w → (execOp a.eval oi).run P w = .ok (.value v) w) (hS : S w)
    (h : wpAnyH P md l.toArray Q S fuel (listed.setIfInBounds i true) (a.put oi.dst v) w) : wpAnyH P md l.toArray Q S (fuel + 1) listed a w :=
  wpAnyH_take (by simpa using hi) hs hf hr hQ (.inl ⟨hw, hv⟩) hS h
theorem h_call {i : Nat} {oi : Oper} {f : FuncId} {args : Array Value} (hi : l[i]? = some oi) (hr : Region.ready md l.toArray listed = [i]) (hw : Region.wanted oi (yielded l.toArray a.tmps) = true)
    (hv : (execOp a.eval oi).run P w = .ok (.enter f args) w)
    (hc : Calls P f args w fun e w' => ∃ v, e = .returned v ∧ S w' ∧ wpAnyH P md l.toArray Q S fuel (listed.setIfInBounds i true) (a.put oi.dst v) w') : wpAnyH P md l.toArray Q S (fuel + 1) listed a w := by
  refine wpAnyH_all hr (by simp) fun j hj => ?_
  simp at hj
  subst hj
  have hi2 : l.toArray[j]? = some oi := by simpa using hi
  unfold wpOp
  simp only [hi2, hw, if_true]
  left
  unfold Oper.wp
  rw [hv]
  simp only [Oper.upon]
  refine hc.mono fun e w' ⟨v, he, h1, h2⟩ => ?_
  subst he
  exact ⟨h1, h2⟩
theorem h_start {id : Nat} (hm : P.follows .mixedOrders = true) (h : wpAnyH P .any l.toArray Q S l.toArray.size (Array.replicate l.toArray.size false) a w.drew) : (Code.region id l.toArray true).wp P Q a w := wp_region_held hm h
theorem h_done (hr : Region.ready md l.toArray listed = []) (h : Q .normal a w) : wpAnyH P md l.toArray Q S fuel listed a w := wpAnyH_done hr h _
/-- An operation that turns the world, the only one that may come up. -/
theorem h_step {i : Nat} {oi : Oper} (hi : l[i]? = some oi) (hr : Region.ready md l.toArray listed = [i]) (hw : Region.wanted oi (yielded l.toArray a.tmps) = true)
    (h : ∀ K : Act → World → Prop, (∀ a' w', S w' → wpAnyH P md l.toArray Q S fuel (listed.setIfInBounds i true) a' w' → K a' w') → oi.wp P a w K Q) : wpAnyH P md l.toArray Q S (fuel + 1) listed a w := by
  refine wpAnyH_all hr (by simp) fun j hj => ?_
  simp at hj
  subst hj
  have hi2 : l.toArray[j]? = some oi := by simpa using hi
  unfold wpOp
  simp only [hi2, hw, if_true]
  left
  exact h _ fun a' w' h1 h2 => ⟨h1, h2⟩
/-- A whole row that is loaded, as a value. -/
theorem x_load {o : Oper} (ty : TypeId) (x : Operand) (ho : o.op = .load ty x) (g : Nat) (hx : a.eval x = .pointer (some ⟨g, 0, none⟩)) (t : TypeId) (cs : Array Value) (fr : Nat × Nat) (d : TypeDesc) (hg : w.heap[g]? = some (.cells cs t fr))
    (hu : P.underlying ty = some d) (hd : (match d with | .struct _ | .array _ _ => true | _ => false) = true) (hi : (P.info? ty).map (·.size) = some cs.size) : (execOp a.eval o).run P w = .ok (.value (.agg cs)) w := by
  unfold execOp
  simp only [ho, hx, Instr.loadAt, Instr.sureAddr, Sem.run_bind, Sem.run_pure, Result.andThen_ok, run_loadVar_row w g t ty cs fr d hg hu hd hi]
end

end Go.Proofs.Ytoppgdhidnpibaa
