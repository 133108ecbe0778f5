
import Derived.Test.YteilhjkkgdgbkaaNM
/- NN: both arenas side by side; what is told next; marks -/
namespace Go.Proofs.Yteilhjkkgdgbkaa
open Go.RowKit Go.Shelf
set_option linter.unusedVariables false
attribute [local go_sem] Oper.semAt_some

structure PlayR (wB : World) (ab rb : Nat) (C : Nat → Option Obj) (S U : Nat → Prop) (A : ArS Int) (n : Nat) (W : World) : Prop where
  t : Ar_6 wB.heap.size S ab A n W
  r : RefR wB.heap.size U rb A W
  ap : ∀ k, S k → ¬ U k
  keep : ∀ k o, C k = some o → W.heap[k]? = some o ∧ ¬ S k ∧ ¬ U k ∧ wB.heap.size ≤ k
  bel : Below wB.heap.size wB W
def addC (C : Nat → Option Obj) (D : Nat) (o : Obj) : Nat → Option Obj := fun k => if k = D then some o else C k
section
variable {wB : World} {ab rb : Nat} {C : Nat → Option Obj} {S U : Nat → Prop} {A : ArS Int} {n : Nat} {W W' : World}
theorem PlayR.below (h : PlayR wB ab rb C S U A n W) (hb : Below W.heap.size W W') : PlayR wB ab rb C S U A n W' :=
  ⟨h.t.below hb, h.r.below hb, h.ap, fun k o hk => ⟨(hb.block k (lt_of_heap (h.keep k o hk).1)).trans (h.keep k o hk).1, (h.keep k o hk).2⟩, below_add h.bel hb h.bel.size⟩
theorem PlayR.cut (h : PlayR wB ab rb C S U A n W) : PlayR wB ab rb C (fun k => S k ∧ k < W.heap.size) (fun k => U k ∧ k < W.heap.size) A n W :=
  ⟨h.t.cutS, h.r.cutS, fun k h1 h2 => h.ap k h1.1 h2.1, fun k o hk => ⟨(h.keep k o hk).1, fun hc => (h.keep k o hk).2.1 hc.1, fun hc => (h.keep k o hk).2.2.1 hc.1, (h.keep k o hk).2.2.2⟩, h.bel⟩
theorem PlayR.le (h : PlayR wB ab rb C S U A n W) {m : Nat} (hm : n ≤ m) : PlayR wB ab rb C S U A m W := { h with t := h.t.le hm }
theorem PlayR.add (h : PlayR wB ab rb C S U A n W) {D : Nat} {o : Obj} (hD : W.heap[D]? = some o) (hS : ¬ S D) (hU : ¬ U D) (hB : wB.heap.size ≤ D) : PlayR wB ab rb (addC C D o) S U A n W :=
  ⟨h.t, h.r, h.ap, fun k o' hk => by
    unfold addC at hk
    by_cases e : k = D
    · rw [if_pos e] at hk
      cases hk
      rw [e]
      exact ⟨hD, hS, hU, hB⟩
    · rw [if_neg e] at hk
      exact h.keep k o' hk, h.bel⟩
theorem PlayR.sub (h : PlayR wB ab rb C S U A n W) {C' : Nat → Option Obj} (hC : ∀ k o, C' k = some o → C k = some o) : PlayR wB ab rb C' S U A n W := { h with keep := fun k o hk => h.keep k o (hC k o hk) }
/-- The reference's arena where the other one alone has turned. -/
theorem PlayR.ref (h : PlayR wB ab rb C S U A n W) {w1 : World} (ho : Off S W w1) : RefR wB.heap.size U rb A w1 := h.r.kept ho.size (fun k hk hU => ho.block k hk (fun hS => h.ap k hS hU))
/-- One call on each. -/
theorem PlayR.step2 (h : PlayR wB ab rb C S U A n W) (hSz : ∀ k, S k ∨ U k → k < W.heap.size) {A' : ArS Int} {n' : Nat} {w1 w2 : World} {S' U' : Nat → Prop} (ht : Ar_6 wB.heap.size S' ab A' n' w1) (hS' : ∀ k, S' k → S k ∨ W.heap.size ≤ k) (ho : Off S W w1)
    (hr : RefR wB.heap.size U' rb A' w2) (hU' : ∀ k, U' k → U k ∨ w1.heap.size ≤ k) (ho2 : Off U w1 w2) :
    ∃ S2 U2, PlayR wB ab rb C S2 U2 A' n' w2 ∧ ∀ k, S2 k ∨ U2 k → (S k ∨ U k) ∨ W.heap.size ≤ k := by
  have hB := h.t.hB
  have hz := ho.size
  have b1 := ho.below h.t.sB hB
  have b2 : Below wB.heap.size w1 w2 := ho2.below h.r.sB (Nat.le_trans hB hz)
  refine ⟨fun k => S' k ∧ k < w1.heap.size, U', ⟨(ht.cutS).kept ho2.size (fun k hk hS => ho2.block k hk (fun hU => ?_)), hr, fun k h1 h2 => ?_, fun k o hk => ?_, (h.bel.trans b1).trans b2⟩, fun k hk => ?_⟩
  · rcases hS' k hS.1 with e | e
    · exact h.ap k e hU
    · have := hSz k (.inr hU); omega
  · rcases hS' k h1.1 with e | e
    · rcases hU' k h2 with f | f
      · exact h.ap k e f
      · have := hSz k (.inl e); omega
    · rcases hU' k h2 with f | f
      · have := hSz k (.inr f); omega
      · have := h1.2; omega
  · obtain ⟨q1, q2, q3, q4⟩ := h.keep k o hk
    have hlt := lt_of_heap q1
    have e1 := (ho.block k hlt q2).trans q1
    refine ⟨(ho2.block k (lt_of_heap e1) q3).trans e1, fun hc => ?_, fun hc => ?_, q4⟩
    · rcases hS' k hc.1 with e | e
      · exact q2 e
      · omega
    · rcases hU' k hc with e | e
      · exact q3 e
      · omega
  · rcases hk with e | e
    · rcases hS' k e.1 with f | f
      · exact .inl (.inl f)
      · exact .inr f
    · rcases hU' k e with f | f
      · exact .inl (.inr f)
      · right; omega
end

/-! ### what is told next -/
/-- The next number that may be told when so many were. -/
def nextA (pre : List Nat) : Nat := match pre.getLast? with
  | some x => x + 1
  | none => 0
theorem nextA_snoc (pre : List Nat) (x : Nat) : nextA (pre ++ [x]) = x + 1 := by unfold nextA; simp
section
variable {A : ArS Int} {pre : List Nat}
theorem ids_lt (A : ArS Int) : (idsA A).Pairwise (· < ·) := (List.pairwise_lt_range (n := A.ps.length)).filter _
theorem ids_mem {j : Nat} : j ∈ idsA A ↔ j < A.ps.length ∧ A.has (j : Nat) = true := by
  unfold idsA uptoA
  simp
theorem nextA_le (A : ArS Int) : nextA (idsA A) ≤ A.ps.length := by
  unfold nextA
  cases h : (idsA A).getLast? with
  | none => exact Nat.zero_le _
  | some x =>
    obtain ⟨r, hr⟩ := List.getLast?_eq_some_iff.1 h
    exact (ids_mem.1 (by rw [hr]; simp)).1
/-- Between what was told last and what comes next there is none. -/
theorem ids_next (hpre : pre = (idsA A).take pre.length) (hlt : pre.length < (idsA A).length) :
    ∃ m, (idsA A)[pre.length]? = some m ∧ nextA pre ≤ m ∧ m < A.ps.length ∧ A.has (m : Nat) = true ∧ ∀ j, nextA pre ≤ j → j < m → A.has (j : Nat) = false := by
  have hp := List.pairwise_iff_getElem.1 (ids_lt A)
  obtain ⟨h1, h2⟩ := ids_mem.1 (List.getElem_mem hlt)
  have hnx : ∀ q (hq : q < pre.length), (idsA A)[q]'(by omega) < nextA pre := by
    intro q hq
    have hl : pre.getLast? = some ((idsA A)[pre.length - 1]'(by omega)) := by
      rw [List.getLast?_eq_getElem?]
      conv => lhs; rw [hpre]
      rw [List.getElem?_take]
      have e : (List.take pre.length (idsA A)).length = pre.length := by rw [← hpre]
      rw [e, if_pos (by omega), List.getElem?_eq_getElem (by omega)]
    unfold nextA
    rw [hl]
    show _ < _ + 1
    rcases Nat.lt_or_ge q (pre.length - 1) with h | h
    · have := hp q (pre.length - 1) (by omega) (by omega) h; omega
    · have : q = pre.length - 1 := by omega
      subst this; omega
  refine ⟨_, List.getElem?_eq_getElem hlt, ?_, h1, h2, fun j hj hjm => ?_⟩
  · unfold nextA
    cases hg : pre.getLast? with
    | none => exact Nat.zero_le _
    | some x =>
      show x + 1 ≤ _
      have h0 : 0 < pre.length := by
        cases pre with
        | nil => simp at hg
        | cons a r => simp
      have hx : x = (idsA A)[pre.length - 1]'(by omega) := by
        rw [List.getLast?_eq_getElem?] at hg
        have e2 : pre[pre.length - 1]? = (idsA A)[pre.length - 1]? := by
          conv => lhs; rw [hpre]
          rw [List.getElem?_take]
          have e : (List.take pre.length (idsA A)).length = pre.length := by rw [← hpre]
          rw [e, if_pos (by omega)]
        rw [e2, List.getElem?_eq_getElem (by omega)] at hg
        exact (Option.some.inj hg).symm
      rw [hx]
      exact hp (pre.length - 1) pre.length (by omega) hlt (by omega)
  · cases hh : A.has (j : Nat) with
    | false => rfl
    | true =>
      exfalso
      obtain ⟨q, hq, e⟩ := List.getElem_of_mem (ids_mem.2 ⟨Nat.lt_trans hjm h1, hh⟩)
      rcases Nat.lt_trichotomy q pre.length with h | h | h
      · have := hnx q h; omega
      · subst h; omega
      · have := hp pre.length q hlt hq h; omega
/-- Behind the last one there is none. -/
theorem ids_last {j : Nat} (h1 : nextA (idsA A) ≤ j) : j < A.ps.length → A.has (j : Nat) = false := fun hj => by
  cases hh : A.has (j : Nat) with
  | false => rfl
  | true =>
    exfalso
    have hp := List.pairwise_iff_getElem.1 (ids_lt A)
    obtain ⟨q, hq, e⟩ := List.getElem_of_mem (ids_mem.2 ⟨hj, hh⟩)
    have hl : (idsA A).getLast? = some ((idsA A)[(idsA A).length - 1]'(by omega)) := by
      rw [List.getLast?_eq_getElem?, List.getElem?_eq_getElem (by omega)]
    unfold nextA at h1
    rw [hl] at h1
    have h1 : (idsA A)[(idsA A).length - 1]'(by omega) + 1 ≤ j := h1
    rcases Nat.lt_or_ge q ((idsA A).length - 1) with h | h
    · have := hp q _ hq (by omega) h; omega
    · have : q = (idsA A).length - 1 := by omega
      subst this; omega
theorem take_next {m : Nat} (hpre : pre = (idsA A).take pre.length) (hm : (idsA A)[pre.length]? = some m) : pre ++ [m] = (idsA A).take (pre ++ [m]).length := by
  rw [List.length_append, List.length_singleton, List.take_add_one, hm, ← hpre]
  rfl
theorem not_pre {m x : Nat} (hm : (idsA A)[pre.length]? = some m) (hx : x ≠ m) : ¬ (pre ++ [x]) <+: idsA A := fun ⟨r, h⟩ => by
  rw [← h] at hm
  rw [List.append_assoc, List.getElem?_append_right (Nat.le_refl _)] at hm
  simp at hm
  exact hx hm
end
theorem kpT_b {B0 bx : Nat} {w3 : World} (h0 : B0 ≤ w3.heap.size) (hx : bx < w3.heap.size) : ∀ (W : World) (l : Nat) (o o' : Obj), w3.heap.size ≤ l → W.heap[l]? = some o → o.isCells = false → o.isWalk = false → KpT B0 bx W (W.putObj l o') := fun W l o o' hl ho h1 h2 =>
  ⟨belowK_b (w := w3) h0 W l o o' hl ho h1 h2, by
    have hG := grownBy_putObj' W l o'
    exact hG.block bx (by have := lt_of_heap ho; omega) (fun e => by injection e; omega)⟩
theorem KeepsOthers.of_below {A B : World} (h : Below A.heap.size A B) : KeepsOthers A B :=
  ⟨h.size, fun k o hk _ => (h.block k (lt_of_heap hk)).trans hk⟩

/-! ### marks -/
/-- The marks that ranges over functions have left among the deferred calls are taken, one behind the other. -/
theorem leaves_marks {F : Fence} {n lo : Nat} {P : Program} {fn : Func} {tmps : Array Value} {R : Ending → World → Prop} : ∀ (Ds : List Nat) (W : World), Ds.Nodup → (∀ D ∈ Ds, lo ≤ D ∧ W.heap[D]? = some (.deferred (some []))) →
    (∀ W', Below lo W W' → LeavesIn F n P fn tmps R [] .returning W') → LeavesInM F n P fn tmps R (Ds.map fun D => { target := .collected D, args := #[] }) .returning W
  | [], W, _, _, h => h W (Below.refl _ _)
  | D :: r, W, hn, hd, h => by
    obtain ⟨hD, hr⟩ := List.nodup_cons.1 hn
    obtain ⟨hlo, hW⟩ := hd D (by simp)
    have hG := grownBy_putObj' W D (.deferred none)
    have hlt := lt_of_heap hW
    have hb : Below lo W (W.putObj D (.deferred none)) := ⟨hG.os, hG.tape, hG.output, hG.size, fun k hk => by
      by_cases hkl : k < W.heap.size
      · exact hG.block k hkl (fun e => by injection e; omega)
      · omega⟩
    refine ⟨by simp, .inl ⟨D, _, rfl, run_takeDeferred hW, ?_⟩⟩
    refine leaves_marks r _ hr (fun D' hD' => ?_) (fun W' hb' => h W' (hb.trans hb'))
    obtain ⟨h1, h2⟩ := hd D' (by simp [hD'])
    refine ⟨h1, (hG.block D' (lt_of_heap h2) (fun e => ?_)).trans h2⟩
    injection e with e
    exact hD (e ▸ hD')
set_option maxRecDepth 100000 in
/-- A range over All that is left at once. -/
theorem range_break {B : Nat} {S : Nat → Prop} {ab : Nat} {A : ArS Int} {nT bx B0 : Nat} {Q : Exit → Act → World → Prop} {a : Act} {W0 : World} {gt p q : Nat} (hg : a.eval (.tmp gt) = .func (.func 31) #[] #[.pointer (some ⟨bx, 0, none⟩)])
    (hbx : W0.heap[bx]? = some (.cells #[.pointer (some ⟨ab, 0, none⟩)] 23 (0, 0))) (ht : Ar_6 B S ab A nT W0) (hSB : ∀ k, S k → k < B0) (hB0 : B0 ≤ W0.heap.size) (hnT : nT ≤ 1000000)
    (h : ∀ (D : Nat) (W : World), W0.heap.size ≤ D → Below W0.heap.size W0 W → W.heap[D]? = some (.deferred (some [])) → Q .normal { a with defers := { target := .collected D, args := #[] } :: a.defers } W ∧ Q (.exit 9) { a with defers := { target := .collected D, args := #[] } :: a.defers } W) :
    (Code.rangeFunc (.tmp gt) #[p, q] Code.skip (Code.block 10 (Code.exit 9))).wpIn Fence.wide 9 Try.prog Q a W0 := by
  have hlt := lt_of_heap hbx
  refine wpIn_rangeFunc_ownF (α := Nat) (encs := fun x => #[Value.int .i64 (x : Nat), .int .i64 (valA A x)]) (Kp := KpT B0 bx) (S := fun ys => ys = idsA A) (Sp := fun pre => pre <+: idsA A) (N := (idsA A).length) (w0 := W0) rfl (by decide)
    (gf := 31) (lb := #[.pointer (some ⟨bx, 0, none⟩)]) hg trivial (enters_of Try.func31 (by kernel_rfl) rfl) ?seq (fun h k => h.trans k) (kpT_b hB0 hlt) (Below.refl _ _) (fun _ => rfl)
    (fun pre W => Below W0.heap.size W0 W)
    (fun c _ W => c = .exit 9 ∧ Below W0.heap.size W0 W)
    (fun pre A B row hs hg hr => hs.grown hg hs.size (fun k e => (hr k e).1))
    (fun c pre A B row hs hg hr => ⟨hs.1, hs.2.grown hg hs.2.size (fun k e => (hr k e).1)⟩)
    (Below.refl _ _)
    (fun x => { tmps := ((#[p, q] : Array Tmp).zip #[Value.int .i64 (x : Nat), .int .i64 (valA A x)]).foldl (fun t (p, v) => t.setIfInBounds p v) a.tmps, defers := [] }) ?assign ?body ?done ?stop
  case seq =>
    intro l J Jx W hW hJ hJx hY h0
    exact all1_full _ l (by decide) J Jx hY W ((hW.block _ hlt).trans hbx) (ht.below hW) hSB hnT h0
  case assign =>
    intro l x W K hK
    exact wpIn_skip hK
  case body =>
    rintro l pre x W hb _
    gi_wp2
    exact ⟨KeepsOthers.refl _, rfl, hb⟩
  case done =>
    rintro D xs W hD rfl hb hK
    exact (h D W hD hb hK).1
  case stop =>
    rintro D c pre W hD _ ⟨rfl, hb⟩ hK
    exact wpIn_exit (h D W hD hb hK).2
end Go.Proofs.Yteilhjkkgdgbkaa
