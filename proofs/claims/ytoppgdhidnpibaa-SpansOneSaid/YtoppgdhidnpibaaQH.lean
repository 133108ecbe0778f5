
import Derived.Test.YtoppgdhidnpibaaQF
import Derived.StillTailTactics
/- QH: what SpansOne's ranges keep; marks; the spans put in halves -/
namespace Go.Proofs.Ytoppgdhidnpibaa
open Go.RowKit Go.Shelf
set_option linter.unusedVariables false
set_option maxRecDepth 100000

theorem cntR_map (g : Int → Int) : ∀ l : List Int, cntR (l.map g) ≤ cntR l
  | [] => Nat.le_refl _
  | i :: l => by
    rw [List.map_cons, cntR_cons, cntR_cons]
    have ih := cntR_map g l
    by_cases h : l.head? = some i
    · rw [if_pos h, if_pos (by rw [List.head?_map, h]; rfl)]; exact ih
    · rw [if_neg h]
      split <;> omega
theorem mpL_cnt2 (l : List Int) (i j : Int) (g : Int → Int) : cntR (mpL l i j g) ≤ cntR l + 2 := by
  unfold mpL
  split
  · rename_i hr
    unfold spL
    split
    · obtain ⟨a1, a2, a3⟩ := (rcB_iff _ _ _).1 hr
      have hf : flat ((mpX l i j g).map Rw.ck) = (part l i j).map g := by
        unfold mpX
        rw [flat_ck]
        have hh : ∀ q : List Ck, flat (q.map (gkF g)) = (flat q).map g := fun q => by
          induction q with
          | nil => rfl
          | cons x r ih => rw [List.map_cons, flat_cons, flat_cons, ih, List.map_append, List.map_replicate]; rfl
        rw [hh, rl_flat]
      rw [hf]
      have h1 := (cntR_app (l.take i.toNat) ((part l i j).map g ++ l.drop j.toNat)).1
      have h2 := (cntR_app ((part l i j).map g) (l.drop j.toNat)).1
      have h3 := cntR_map g (part l i j)
      have h4 := cntR_cut l j.toNat
      have h5 := cntR_cut (l.take j.toNat) i.toNat
      rw [List.take_take, Nat.min_eq_left (by omega)] at h5
      have h6 : cntR (part l i j) = cntR ((l.take j.toNat).drop i.toNat) := rfl
      omega
    · omega
  · omega
/-- The marks that ranges over functions have left among the deferred calls are taken, one behind the other. -/
theorem leaves_marks11 {F : Fence} {n lo : Nat} {P : Program} {fn : Func} {tmps : Array Value} {R : Ending → World → Prop} : ∀ (Ds : List Nat) (W : World), Ds.Nodup → (∀ D ∈ Ds, lo ≤ D ∧ W.heap[D]? = some (.deferred (some []))) →
    (∀ W', Below lo W W' → (∀ k, k ∉ Ds → W'.heap[k]? = W.heap[k]?) → LeavesIn F n P fn tmps R [] .returning W') → LeavesInM F n P fn tmps R (Ds.map fun D => { target := .collected D, args := #[] }) .returning W
  | [], W, _, _, h => h W (Below.refl _ _) (fun _ _ => rfl)
  | D :: r, W, hn, hd, h => by
    obtain ⟨hD, hr⟩ := List.nodup_cons.1 hn
    obtain ⟨hlo, hW⟩ := hd D (by simp)
    have hG := grownBy_putObj' W D (.deferred none)
    have hlt := lt_of_heap hW
    have hk : ∀ k, k ≠ D → (W.putObj D (.deferred none)).heap[k]? = W.heap[k]? := fun k hk => by
      rcases Nat.lt_or_ge k W.heap.size with h | h
      · exact hG.block k h (fun e => by injection e with e; exact hk e)
      · have hz : (W.putObj D (.deferred none)).heap.size = W.heap.size := by simp [World.putObj]
        rw [Array.getElem?_eq_none h, Array.getElem?_eq_none (by omega)]
    have hb : Below lo W (W.putObj D (.deferred none)) := ⟨hG.os, hG.tape, hG.output, hG.size, fun k hk' => hk k (by omega)⟩
    refine ⟨by simp, .inl ⟨D, _, rfl, run_takeDeferred hW, ?_⟩⟩
    refine leaves_marks11 r _ hr (fun D' hD' => ?_) (fun W' hb' hk' => h W' (hb.trans hb') (fun k hkn => ?_))
    · obtain ⟨h1, h2⟩ := hd D' (by simp [hD'])
      exact ⟨h1, (hk D' (fun e => hD (e ▸ hD'))).trans h2⟩
    · rw [hk' k (fun h => hkn (by simp [h])), hk k (fun h => hkn (by simp [h]))]
def lastD (pre : List Ck) : Int := (pre.getLast?.map Ck.d).getD (-1)
theorem lastD_app (pre : List Ck) (x : Ck) : lastD (pre ++ [x]) = x.d := by simp [lastD]
/-- The spans told so far, added up, and the last one's number. -/
structure OnK (W0 : World) (bn bl : Nat) (P pre : List Ck) (z y : Int) (W : World) : Prop where
  c1 : Cb bn 3 #[.int .i64 z] W
  c2 : Cb bl 3 #[.int .i64 y] W
  ok : pre <+: P → z = (lnS pre : Nat) ∧ y = lastD pre
  kp : KpX W0.heap.size (fun k => k = bn ∨ k = bl) W0 W
/-- How many spans were told so far. -/
structure CnK (W0 : World) (bn : Nat) (P pre : List Ck) (z : Nat) (W : World) : Prop where
  c1 : Cb bn 3 #[.int .i64 (z : Nat)] W
  le : z ≤ P.length
  ok : pre <+: P → z = pre.length
  kp : KpX W0.heap.size (fun k => k = bn) W0 W
section
variable {W0 W W' w5 w6 : World} {bn bl : Nat} {P pre : List Ck} {z y : Int} {zn : Nat}
theorem OnK.grown {row : Option Nat} (h : OnK W0 bn bl P pre z y W) (hg : W.grownBy W' row) (hr : ∀ r, row = some r → W0.heap.size ≤ r ∧ ∃ o : Obj, W.heap[r]? = some o ∧ o.isCells = false) : OnK W0 bn bl P pre z y W' :=
  ⟨cb_grown h.c1 hg (fun r e => (hr r e).2), cb_grown h.c2 hg (fun r e => (hr r e).2), h.ok, h.kp.trans ⟨hg.os, hg.tape, hg.output, hg.size, fun k hk hl hx => hg.block k hl (fun e => by have := (hr k e.symm).1; omega)⟩⟩
theorem OnK.below (h : OnK W0 bn bl P pre z y W) (hb : Below W.heap.size W W') : OnK W0 bn bl P pre z y W' :=
  ⟨h.c1.below hb, h.c2.below hb, h.ok, h.kp.trans (KpX.of_below hb)⟩
theorem CnK.grown {row : Option Nat} (h : CnK W0 bn P pre zn W) (hg : W.grownBy W' row) (hr : ∀ r, row = some r → W0.heap.size ≤ r ∧ ∃ o : Obj, W.heap[r]? = some o ∧ o.isCells = false) : CnK W0 bn P pre zn W' :=
  ⟨cb_grown h.c1 hg (fun r e => (hr r e).2), h.le, h.ok, h.kp.trans ⟨hg.os, hg.tape, hg.output, hg.size, fun k hk hl hx => hg.block k hl (fun e => by have := (hr k e.symm).1; omega)⟩⟩
theorem CnK.below (h : CnK W0 bn P pre zn W) (hb : Below W.heap.size W W') : CnK W0 bn P pre zn W' :=
  ⟨h.c1.below hb, h.le, h.ok, h.kp.trans (KpX.of_below hb)⟩
theorem kpx_set {n0 : Nat} {X : Nat → Prop} {g : Nat} {v : Value} (hg : X g) : KpX n0 X W (W.setCell ⟨g, 0, none⟩ v) :=
  .of_off (Off.of_grown (grown_set (w := W) (g := g) (o := 0) v) (fun k hk => by cases hk; exact hg))
theorem keeps_set {n0 g : Nat} {v : Value} : KeepsFrom n0 W (W.setCell ⟨g, 0, none⟩ v) := (KeepsOthers.setCell W ⟨g, 0, none⟩ v).from _
theorem pre_cut {x : Ck} (h : pre ++ [x] <+: P) : pre <+: P := by
  obtain ⟨r, hr⟩ := h
  exact ⟨[x] ++ r, by rw [← hr, List.append_assoc]⟩
/-- What is true of the next span. -/
theorem on_good {l : List Int} (hp : ∀ i ∈ l, 0 ≤ i) (hl : l.length ≤ 536870912) {x : Ck} (h : pre ++ [x] <+: rl l) : 1 ≤ x.n ∧ x.d ≠ lastD pre ∧ 0 ≤ x.d ∧ lnS pre + x.n ≤ 536870912 ∧ lnS (pre ++ [x]) = lnS pre + x.n := by
  obtain ⟨r, hr⟩ := h
  have hm : x ∈ rl l := by rw [← hr]; simp
  have h1 := pr_pos (rl_pr l) x hm
  have h2 := rl_mem hp x hm
  have h3 : lnS (rl l) = l.length := by rw [← flat_len, rl_flat]
  have h4 : lnS (pre ++ [x]) = lnS pre + x.n := by rw [lnS_app, lnS_cons]; rfl
  rw [← hr, lnS_app] at h3
  refine ⟨h1, ?_, h2, by omega, h4⟩
  unfold lastD
  cases hg : pre.getLast? with
  | none => show x.d ≠ -1; omega
  | some a =>
    have hpr := rl_pr l
    rw [← hr] at hpr
    have := (pr_app.1 (pr_app.1 hpr).1).2.2 a x hg rfl
    exact fun e => this e.symm
end
/-- A span put in, in two halves, ahead of all. -/
theorem half_facts {l : List Int} (hp : ∀ i ∈ l, 0 ≤ i) (hl : l.length ≤ 536870912) {m : Nat} {x : Ck} (hm : (rl l)[m]? = some x) (m' : Nat) (hm' : m' = m + 1) : ∃ A, (x.n : Int).tdiv 2 = (x.n / 2 : Nat) ∧ spE (flat ((rl l).drop m')) 0 0 [⟨(x.n / 2 : Nat), x.d⟩] = 0 ∧ spL (flat ((rl l).drop m')) 0 0 [⟨(x.n / 2 : Nat), x.d⟩] = A ∧
    spE A 0 0 [⟨(x.n - x.n / 2 : Nat), x.d⟩] = 0 ∧ spL A 0 0 [⟨(x.n - x.n / 2 : Nat), x.d⟩] = flat ((rl l).drop m) ∧ cntR (flat ((rl l).drop m')) ≤ cntR l ∧ cntR A ≤ cntR l ∧ x.n ≤ 536870912 := by
  subst hm'
  obtain ⟨hlt, rfl⟩ := List.getElem?_eq_some_iff.1 hm
  have hd : (rl l).drop m = (rl l)[m] :: (rl l).drop (m + 1) := List.drop_eq_getElem_cons hlt
  have hx : (rl l)[m] ∈ rl l := List.getElem_mem hlt
  have h2 := rl_mem hp _ hx
  have h3 : lnS (rl l) = l.length := by rw [← flat_len, rl_flat]
  have h4 : lnS ((rl l).take m) + lnS ((rl l).drop m) = lnS (rl l) := by rw [← lnS_app, List.take_append_drop]
  rw [hd, lnS_cons] at h4
  have hc := cntR_flat ((rl l).drop (m + 1))
  have hcl : ((rl l).drop (m + 1)).length + (m + 1) = cntR l := by rw [List.length_drop]; unfold cntR; omega
  rw [hd]
  obtain ⟨R, hR⟩ : ∃ R, (rl l).drop (m + 1) = R := ⟨_, rfl⟩
  rw [hR] at h4 hc hcl ⊢
  obtain ⟨x, hxx⟩ : ∃ x, (rl l)[m] = x := ⟨_, rfl⟩
  rw [hxx] at h2 h4 ⊢
  have hfl : (flat R).length = lnS R := flat_len R
  have one : ∀ (L : List Int) (n : Nat), L.length + n ≤ 536870912 → spE L 0 0 [⟨(n : Nat), x.d⟩] = 0 ∧ spL L 0 0 [⟨(n : Nat), x.d⟩] = List.replicate n x.d ++ L := fun L n hn => by
    have e : spE L 0 0 [⟨(n : Nat), x.d⟩] = 0 := by
      unfold spE
      have q1 : anyBad [⟨(n : Nat), x.d⟩] = false := by simp [anyBad, badW]; omega
      have q2 : smW [⟨(n : Nat), x.d⟩] = (n : Nat) := by simp [smW]
      have q3 : rcB L.length 0 0 = true := (rcB_iff _ _ _).2 ⟨Int.le_refl _, Int.le_refl _, by omega⟩
      rw [q1, q2, q3, if_neg (by decide), if_neg (by decide), if_pos (by omega)]
    refine ⟨e, ?_⟩
    unfold spL
    rw [if_pos e]
    simp [flat, Rw.ck]
  obtain ⟨a1, a2⟩ := one (flat R) (x.n / 2) (by rw [hfl]; omega)
  obtain ⟨b1, b2⟩ := one (List.replicate (x.n / 2) x.d ++ flat R) (x.n - x.n / 2) (by rw [List.length_append, List.length_replicate, hfl]; omega)
  refine ⟨_, by rfl, a1, rfl, by rw [a2]; exact b1, ?_, by omega, ?_, by omega⟩
  · rw [a2, b2, ← List.append_assoc, List.replicate_append_replicate, show x.n - x.n / 2 + x.n / 2 = x.n by omega, flat_cons]
  · rw [a2]
    have := cntR_flat (⟨x.n / 2, x.d⟩ :: R)
    rw [flat_cons, List.length_cons] at this
    exact Nat.le_trans this (by omega)
end Go.Proofs.Ytoppgdhidnpibaa
