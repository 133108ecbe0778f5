
import Derived.Test.YteodfbkfpboehaaDY
import Derived.RangeFuncNested
import Derived.RangeFuncBound
import Derived.RangeFuncCalls
import Derived.RangeFuncLeaves
import Derived.Shelf.Abstract
import Derived.Shelf.RegionOpen
import Derived.WalkKit
import Derived.OwnWalkIn
import Derived.TacticsInMore
import Derived.LoopNIn
import Derived.LoopIn
import Derived.Sort.QuietIn
import Derived.Deep.AppendLies
/- KR: operations within a round walked as outside of one; blocks that a round leaves -/
namespace Go
section
variable {l n : Nat} {P : Program} {ops : Array Oper} {Q : Exit → Act → World → Prop} {a : Act} {w : World}
theorem opIn_of_plain {o : Oper} {K : Act → World → Prop} (hd : ∀ c, o.op ≠ .defer c) (h : o.wp P a w K Q) : o.wpIn (Fence.wide.inRound l) n P a w K Q := by
  unfold Oper.wp at h
  unfold Oper.wpIn
  rw [Oper.semAt_eq _ _ _ hd]
  refine ⟨fun _ _ => trivial, ?_⟩
  generalize (execOp a.eval o).run P w = r at *
  cases r with
  | ok x w' =>
    cases x with
    | value v => exact h
    | skip => exact h
    | defer d => exact h
    | enter f args => exact ⟨fun h => (by cases h), CallsIn.inRound l (callsIn_wide.2 h)⟩
    | row row args =>
      refine ⟨fun h => (by cases h), fun c cs _ => ?_⟩
      obtain ⟨v, w2, r, s⟩ := h c cs
      exact ⟨v, w2, r, stepsIn_wide.2 s⟩
    | _ => exact h.elim
  | halt x w' =>
    cases x with
    | panic v => exact h
    | _ => exact h.elim
def noDefer (l : List Oper) : Bool := l.all fun o => match o.op with
  | .defer _ => false
  | _ => true
theorem listIn_of_plain (hq : ∀ a w, ¬ Q .outgrown a w) : ∀ (rest : List Oper) {a : Act} {w : World}, noDefer rest = true → wpList P ops Q rest a w → wpListIn (Fence.wide.inRound l) n P ops Q rest a w
  | [], a, w, _, h => h
  | o :: rest, a, w, hd, h => by
    have hd' : (match o.op with | .defer _ => false | _ => true) = true ∧ noDefer rest = true := by
      simpa [noDefer] using hd
    unfold wpList at h
    unfold wpListIn
    split
    · rename_i hw
      rw [if_pos hw] at h
      rcases h with h | ⟨-, a', w', h⟩
      · refine Oper.wpIn_mono (K := wpList P ops Q rest) (fun a w h => listIn_of_plain hq rest hd'.2 h) (opIn_of_plain (fun c hc => ?_) h)
        have := hd'.1
        rw [hc] at this
        cases this
      · exact (hq a' w' h).elim
    · rename_i hw
      rw [if_neg hw] at h
      exact ⟨fun _ _ => trivial, listIn_of_plain hq rest hd'.2 h⟩
/-- A region within a round, as outside of one. -/
theorem regionIn_of_plain {id : Nat} {L : List Oper} (hq : ∀ a w, ¬ Q .outgrown a w) (hd : noDefer L = true) (h : wpList P L.toArray Q L a w) : (Code.region id L.toArray false).wpIn (Fence.wide.inRound l) n P Q a w :=
  wpIn_region_lit (listIn_of_plain hq L hd h)
end
end Go
namespace Go.Proofs.Yteodfbkfpboehaa
open Go.RowKit Go.Shelf
set_option linter.unusedVariables false
set_option maxRecDepth 100000
theorem built_one {P : Program} (e : TypeId) (ie : TypeInfo) (hi : P.info? e = some ie) (z : Value) (hz : ie.zero = some z) (m : Nat) (hs : ie.size = m) (hm : 0 < m) (hm2 : m ≤ 1000) (cx : List Value) (hc : cx.length = m) :
    P.builtSlice e 1 [(0, .agg cx.toArray)] = some cx.toArray := by
  unfold Program.builtSlice
  simp only [hi, hz, hs, Nat.one_mul]
  rw [if_neg (by omega)]
  have e3 : (Value.agg cx.toArray).cells = cx.toArray := rfl
  have f : ∀ A : Array Value, A.size = m → (cx.toArray.zipIdx.foldl (fun cs (x : Value × Nat) => cs.setIfInBounds (0 + x.2) x.1) A) = cx.toArray := fun A hA => by
    apply Array.toList_inj.1
    rw [fold_setsA]
    have := sets_mid cx A.toList [] [] (by simp [hA, hc])
    simpa using this
  rw [Instr.fill]
  simp only [e3, Nat.zero_mul]
  rw [if_neg (by simp [hc])]
  rw [f _ (by simp), Instr.fill]

section
variable {w0 w W W' : World}
theorem cb_grown {b : Nat} {t : TypeId} {cs : Array Value} {row : Option Nat} (h : Cb b t cs W) (hg : W.grownBy W' row) (hr : ∀ r, row = some r → ∃ o : Obj, W.heap[r]? = some o ∧ o.isCells = false) : Cb b t cs W' := by
  refine (hg.block b h.lt (fun e => ?_)).trans h
  obtain ⟨o, ho, hc⟩ := hr b e.symm
  rw [show W.heap[b]? = _ from h] at ho
  cases ho
  cases hc
theorem own_grown {row : Option Nat} {e : TypeId} {base sz n : Nat} {v : Value} {cs : List Value} (h : W.ownsRow base e sz v n cs) (hg : W.grownBy W' row) (hr : ∀ r, row = some r → ∃ o : Obj, W.heap[r]? = some o ∧ o.isCells = false) : W'.ownsRow base e sz v n cs :=
  owns_kept h fun g hgb => by
    obtain ⟨cur, hc⟩ := own_tag h hgb
    have hcb : Cb g e cur W := hc
    exact (cb_grown hcb hg hr).trans hc.symm
theorem keeps_off {S : Nat → Prop} (h : Off S W W') (hs : ∀ k, S k → k < W.heap.size → ∃ cs t f, W.heap[k]? = some (.cells cs t f)) : KeepsOthers W W' :=
  ⟨h.size, fun k o hk ho => by
    by_cases hS : S k
    · obtain ⟨cs, t, f, e⟩ := hs k hS (lt_of_heap hk)
      rw [e] at hk
      cases hk
      cases ho
    · exact (h.block k (lt_of_heap hk) hS).trans hk⟩
end
theorem with_worldI {F : Fence} {n : Nat} {P : Program} {c : Code} {Q : Exit → Act → World → Prop} {a : Act} {W0 : World} (G : World → Prop) (h0 : G W0) (h : ∀ W, G W → c.wpIn F n P Q a W) : c.wpIn F n P Q a W0 := h _ h0
end Go.Proofs.Yteodfbkfpboehaa
