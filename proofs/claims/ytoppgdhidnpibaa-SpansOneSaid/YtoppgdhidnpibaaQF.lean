
import Derived.Test.YtoppgdhidnpibaaQE
import Derived.RangeFuncNested
import Derived.RangeFuncBound
import Derived.RangeFuncCalls
import Derived.RangeFuncLeaves
import Derived.Shelf.Abstract
import Derived.Shelf.RegionOpen
import Derived.WalkKit
import Derived.OwnWalkIn
import Derived.TacticsInMore
import Derived.LoopNIn
import Derived.LoopIn
/- QF: a range over All that gathers the spans into a variable; what is put in is put away again -/
namespace Go.Proofs.Ytoppgdhidnpibaa
open Go.RowKit Go.Shelf
set_option linter.unusedVariables false
set_option maxRecDepth 100000

/-- The act at a range, under one name. -/
theorem act_gen {F : Fence} {n : Nat} {P : Program} {c : Code} {Q : Exit → Act → World → Prop} {a : Act} {w : World} (h : ∀ a', a = a' → c.wpIn F n P Q a' w) : c.wpIn F n P Q a w := h a rfl
/-- Blocks from B on, but for those from z up to z'. -/
def Xz (B z z' : Nat) (k : Nat) : Prop := B ≤ k ∧ ¬ (z ≤ k ∧ k < z')
/-- What a range that gathers spans keeps between two rounds. -/
structure ApK (W0 : World) (bl : Nat) (pre : List Ck) (v : Value) (W : World) : Prop where
  c : Cb bl 22 #[v] W
  own : W.ownsRow W0.heap.size 44 2 v pre.length (Go.Proofs.Ytoppgdhidnpibaa.fl CkC pre)
  kp : KpX W0.heap.size (fun k => k = bl) W0 W
section
variable {W0 W W' w5 w6 : World} {bl : Nat} {pre : List Ck} {v : Value}
theorem ApK.grown {row : Option Nat} (h : ApK W0 bl pre v W) (hg : W.grownBy W' row) (hr : ∀ r, row = some r → W0.heap.size ≤ r ∧ ∃ o : Obj, W.heap[r]? = some o ∧ o.isCells = false) : ApK W0 bl pre v W' :=
  ⟨cb_grown h.c hg (fun r e => (hr r e).2), own_grown h.own hg (fun r e => (hr r e).2), h.kp.trans ⟨hg.os, hg.tape, hg.output, hg.size, fun k hk hl hx => hg.block k hl (fun e => by have := (hr k e.symm).1; omega)⟩⟩
theorem ApK.below (h : ApK W0 bl pre v W) (hb : Below W.heap.size W W') : ApK W0 bl pre v W' :=
  ⟨h.c.below hb, owns_kept h.own (fun g hg => hb.block g (own_lt7 h.own hg)), h.kp.trans (KpX.of_below hb)⟩
/-- The end of a round. -/
theorem apk_next {va : Option Addr} {vc : Nat} (h : ApK W0 bl pre (.slice va pre.length vc) W) (x : Ck) (hn : bl < W0.heap.size) (hb' : Below W.heap.size W w5)
    (g6 cap6 : Nat) (ho : w6.ownsRow W0.heap.size 44 2 (.slice (some ⟨g6, 0, none⟩) (pre.length + 1) cap6) (pre.length + 1) (Go.Proofs.Ytoppgdhidnpibaa.fl CkC pre ++ (crow x).toList))
    (hg : w5.grownBy w6 (Value.slice va pre.length vc).ownBlock) (hl : g6 < w6.heap.size) (hC : Cb bl 22 #[.slice va pre.length vc] w6) :
    KeepsFrom W0.heap.size W (w6.setCell ⟨bl, 0, none⟩ (.slice (some ⟨g6, 0, none⟩) (pre.length + 1) cap6)) ∧ KpX W0.heap.size (fun k => k = bl) W (w6.setCell ⟨bl, 0, none⟩ (.slice (some ⟨g6, 0, none⟩) (pre.length + 1) cap6)) ∧
      ∃ v, ApK W0 bl (pre ++ [x]) v (w6.setCell ⟨bl, 0, none⟩ (.slice (some ⟨g6, 0, none⟩) (pre.length + 1) cap6)) := by
  have O7 : Off (fun k => k = bl ∨ (Value.slice va pre.length vc).ownBlock = some k) W (w6.setCell ⟨bl, 0, none⟩ (.slice (some ⟨g6, 0, none⟩) (pre.length + 1) cap6)) :=
    ((Off.of_below hb').seq (Off.of_grown hg (fun g hg => .inr hg))).seq (Off.of_grown (grown_set (w := w6) (g := bl) (o := 0) (.slice (some ⟨g6, 0, none⟩) (pre.length + 1) cap6)) (fun g hg => by cases hg; exact .inl rfl))
  have hhi := h.kp.size
  have hsz := hb'.size
  have hob : ∀ g, (Value.slice va pre.length vc).ownBlock = some g → W0.heap.size ≤ g := fun g hg => own_base h.own hg
  have hg6 : W0.heap.size ≤ g6 := own_base ho rfl
  have kx : KpX W0.heap.size (fun k => k = bl) W (w6.setCell ⟨bl, 0, none⟩ (.slice (some ⟨g6, 0, none⟩) (pre.length + 1) cap6)) := ⟨O7.os, O7.tape, O7.output, O7.size, fun k hk hkl hx => O7.block k hkl (fun hs => by
    rcases hs with rfl | hs
    · exact hx rfl
    · have := hob _ hs; omega)⟩
  refine ⟨(keeps_off O7 (fun k hk _ => ?_)).from _, kx, _, heap_set _ hC, ?_, h.kp.trans kx⟩
  · rcases hk with rfl | hk
    · exact ⟨_, _, _, h.c⟩
    · obtain ⟨cur, hc⟩ := own_tag h.own hk
      exact ⟨_, _, _, hc⟩
  · rw [List.length_append, fl_app, fl_one]
    exact owns_kept ho (fun g hgo => by
      cases hgo
      exact (grown_set (w := w6) (g := bl) (o := 0) (.slice (some ⟨g6, 0, none⟩) (pre.length + 1) cap6)).block g6 hl (fun e => by injection e; omega))
theorem KpX.putObj {n0 : Nat} {X : Nat → Prop} (W : World) {k : Nat} {o : Obj} (o' : Obj) (hk : n0 ≤ k) : KpX n0 X W (W.putObj k o') :=
  have hG := grownBy_putObj' W k o'
  ⟨hG.os, hG.tape, hG.output, hG.size, fun i hi hl hx => hG.block i hl (fun e => by injection e with e; omega)⟩
end

/-! what is put in is put away again -/
theorem smW_ck : ∀ ys : List Ck, smW (ys.map fun y => ⟨(y.n : Nat), y.d⟩) = ((lnS ys : Nat) : Int)
  | [] => rfl
  | y :: r => by
    have ih := smW_ck r
    unfold smW at *
    rw [List.map_cons, List.map_cons, List.sum_cons, ih, lnS_cons]
    show ((y.n : Nat) : Int) + _ = _
    omega
theorem flat_ck (ys : List Ck) : flat ((ys.map fun y => (⟨(y.n : Nat), y.d⟩ : Rw)).map Rw.ck) = flat ys := by
  have e : (ys.map fun y => (⟨(y.n : Nat), y.d⟩ : Rw)).map Rw.ck = ys := by
    rw [List.map_map]
    conv => rhs; rw [← List.map_id ys]
    refine List.map_congr_left fun y _ => ?_
    obtain ⟨n, d⟩ := y
    show Rw.ck ⟨(n : Nat), d⟩ = _
    unfold Rw.ck
    simp
  rw [e]
theorem rl_mem {l : List Int} (h : ∀ i ∈ l, 0 ≤ i) : ∀ x ∈ rl l, 0 ≤ x.d := fun x hx => by
  have hp := rl_pr l
  have hf := rl_flat l
  have : 0 < x.n := pr_pos hp x hx
  have hm : x.d ∈ flat (rl l) := by
    unfold flat
    rw [List.mem_flatMap]
    exact ⟨x, hx, by rw [List.mem_replicate]; exact ⟨by omega, rfl⟩⟩
  rw [hf] at hm
  exact h _ hm
theorem back_facts {l : List Int} {i j : Int} {xs : List Rw} (hl : l.length ≤ 536870912) (hp : ∀ i ∈ l, 0 ≤ i) (hr : rcB l.length i j = true) (he : spE l i j xs = 0) : ∃ (L1 : List Int) (m : Int), spL l i j xs = L1 ∧ ((L1.length : Nat) : Int) - (l.length : Nat) = m ∧
    spE L1 i (j + m) ((rl (part l i j)).map fun y => ⟨(y.n : Nat), y.d⟩) = 0 ∧ spL L1 i (j + m) ((rl (part l i j)).map fun y => ⟨(y.n : Nat), y.d⟩) = l := by
  obtain ⟨a1, a2, a3⟩ := (rcB_iff _ _ _).1 hr
  have hb : anyBad xs = false := by
    unfold spE at he
    split at he
    · cases he
    · rename_i h; simpa using h
  have hpx := anyBad_no hb
  have e1 : spL l i j xs = l.take i.toNat ++ (flat (xs.map Rw.ck) ++ l.drop j.toNat) := by unfold spL; rw [if_pos he]
  have hA : (l.take i.toNat).length = i.toNat := by rw [List.length_take]; omega
  have hpl : (part l i j).length = j.toNat - i.toNat := by unfold part; rw [List.length_drop, List.length_take]; omega
  obtain ⟨M, hM⟩ : ∃ M, flat (xs.map Rw.ck) = M := ⟨_, rfl⟩
  rw [hM] at e1
  have hL : (spL l i j xs).length = i.toNat + (M.length + (l.length - j.toNat)) := by rw [e1, List.length_append, List.length_append, hA, List.length_drop]
  have hm : (((spL l i j xs).length : Nat) : Int) - (l.length : Nat) = (M.length : Nat) - (j - i) := by rw [hL]; omega
  have h0 : spE (spL l i j xs) i (j + ((M.length : Nat) - (j - i))) ((rl (part l i j)).map fun y => ⟨(y.n : Nat), y.d⟩) = 0 := by
    unfold spE
    have hbad : anyBad ((rl (part l i j)).map fun y => (⟨(y.n : Nat), y.d⟩ : Rw)) = false := by
      unfold anyBad
      rw [List.any_eq_false]
      intro x hx
      obtain ⟨y, hy, rfl⟩ := List.mem_map.1 hx
      have := rl_mem (l := part l i j) (fun q hq => hp q (by unfold part at hq; exact List.mem_of_mem_take (List.mem_of_mem_drop hq))) y hy
      unfold badW
      simp
      omega
    have hrr : rcB (spL l i j xs).length i (j + ((M.length : Nat) - (j - i))) = true := (rcB_iff _ _ _).2 ⟨a1, by omega, by rw [hL]; omega⟩
    have hsm : smW ((rl (part l i j)).map fun y => (⟨(y.n : Nat), y.d⟩ : Rw)) = j - i := by
      rw [smW_ck, ← flat_len, rl_flat, hpl]; omega
    rw [hbad, hrr, hsm, if_neg (by decide), if_neg (by decide), if_pos (by rw [hL]; omega)]
  refine ⟨_, _, rfl, hm, h0, ?_⟩
  unfold spL at h0 ⊢
  rw [if_pos h0]
  have e2 : (if spE l i j xs = 0 then l.take i.toNat ++ (flat (xs.map Rw.ck) ++ l.drop j.toNat) else l) = l.take i.toNat ++ (M ++ l.drop j.toNat) := by rw [if_pos he, hM]
  have hd : (l.take i.toNat ++ (M ++ l.drop j.toNat)).drop (j + ((M.length : Nat) - (j - i))).toNat = l.drop j.toNat := by
    rw [← List.append_assoc, List.drop_left' (by rw [List.length_append, hA]; omega)]
  rw [e2, flat_ck, rl_flat, List.take_left' hA, hd]
  have hs := List.take_append_drop i.toNat (l.take j.toNat)
  rw [List.take_take, Nat.min_eq_left (by omega)] at hs
  rw [← List.append_assoc]
  show l.take i.toNat ++ (l.take j.toNat).drop i.toNat ++ l.drop j.toNat = l
  rw [hs, List.take_append_drop]
end Go.Proofs.Ytoppgdhidnpibaa
