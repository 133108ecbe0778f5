
import Derived.Test.YtclbjfeneegicaaA1
import Derived.Deep.RegionHeld3
import Derived.Deep.RegionLaw
import Derived.Deep.Cut
import Derived.Deep.MidRow
import Derived.Maps.RangeWalk
import Derived.RangeFuncNested
import Derived.RangeFuncBound
import Derived.RangeFuncCalls
import Derived.RangeFuncLeaves
import Derived.Shelf.Abstract
import Derived.Shelf.RegionOpen
import Derived.WalkKit
import Derived.OwnWalkIn
import Derived.TacticsInMore
import Derived.LoopNIn
import Derived.LoopIn
import Derived.Sort.QuietIn
import Derived.Deep.AppendLies
import Derived.StillTailTactics
/- BU: blocks apart, variables, rounds (out of NA, WF, TA, KR, KS, QF, KD, OD) -/
namespace Go
section
variable {l n : Nat} {P : Program} {ops : Array Oper} {Q : Exit → Act → World → Prop} {a : Act} {w : World}
theorem opIn_of_plain {o : Oper} {K : Act → World → Prop} (hd : ∀ c, o.op ≠ .defer c) (h : o.wp P a w K Q) : o.wpIn (Fence.wide.inRound l) n P a w K Q := by
  unfold Oper.wp at h
  unfold Oper.wpIn
  rw [Oper.semAt_eq _ _ _ hd]
  refine ⟨fun _ _ => trivial, ?_⟩
  generalize (execOp a.eval o).run P w = r at *
  cases r with
  | ok x w' =>
    cases x with
    | value v => exact h
    | skip => exact h
    | defer d => exact h
    | enter f args => exact ⟨fun h => (by cases h), CallsIn.inRound l (callsIn_wide.2 h)⟩
    | row row args =>
      refine ⟨fun h => (by cases h), fun c cs _ => ?_⟩
      obtain ⟨v, w2, r, s⟩ := h c cs
      exact ⟨v, w2, r, stepsIn_wide.2 s⟩
    | _ => exact h.elim
  | halt x w' =>
    cases x with
    | panic v => exact h
    | _ => exact h.elim
def noDefer (l : List Oper) : Bool := l.all fun o => match o.op with
  | .defer _ => false
  | _ => true
theorem listIn_of_plain (hq : ∀ a w, ¬ Q .outgrown a w) : ∀ (rest : List Oper) {a : Act} {w : World}, noDefer rest = true → wpList P ops Q rest a w → wpListIn (Fence.wide.inRound l) n P ops Q rest a w
  | [], a, w, _, h => h
  | o :: rest, a, w, hd, h => by
    have hd' : (match o.op with | .defer _ => false | _ => true) = true ∧ noDefer rest = true := by
      simpa [noDefer] using hd
    unfold wpList at h
    unfold wpListIn
    split
    · rename_i hw
      rw [if_pos hw] at h
      rcases h with h | ⟨-, a', w', h⟩
      · refine Oper.wpIn_mono (K := wpList P ops Q rest) (fun a w h => listIn_of_plain hq rest hd'.2 h) (opIn_of_plain (fun c hc => ?_) h)
        have := hd'.1
        rw [hc] at this
        cases this
      · exact (hq a' w' h).elim
    · rename_i hw
      rw [if_neg hw] at h
      exact ⟨fun _ _ => trivial, listIn_of_plain hq rest hd'.2 h⟩
/-- A region within a round, as outside of one. -/
theorem regionIn_of_plain {id : Nat} {L : List Oper} (hq : ∀ a w, ¬ Q .outgrown a w) (hd : noDefer L = true) (h : wpList P L.toArray Q L a w) : (Code.region id L.toArray false).wpIn (Fence.wide.inRound l) n P Q a w :=
  wpIn_region_lit (listIn_of_plain hq L hd h)
end
end Go
namespace Go
section
variable {l n : Nat} {P : Program} {ops : Array Oper} {Q : Exit → Act → World → Prop}
theorem opAtIn_of_plain (hq : ∀ a w, ¬ Q .outgrown a w) (hs : ∀ (i : Nat) (o : Oper), ops[i]? = some o → ∀ c, o.op ≠ .defer c) {i : Nat} {K K' : Act → World → Prop} {a : Act} {w : World}
    (hK : ∀ a w, K a w → K' a w) (h : wpOp P ops Q i K a w) : wpOpIn (Fence.wide.inRound l) n P ops Q i K' a w := by
  unfold wpOp at h
  unfold wpOpIn
  cases ho : ops[i]? with
  | none => simp only [ho] at h ⊢; exact hK _ _ h
  | some o =>
    simp only [ho] at h ⊢
    split
    · rename_i hw
      rw [if_pos hw] at h
      rcases h with h | ⟨-, a', w', h⟩
      · exact Oper.wpIn_mono hK (opIn_of_plain (hs i o ho) h)
      · exact (hq a' w' h).elim
    · rename_i hw
      rw [if_neg hw] at h
      exact ⟨fun _ _ => trivial, hK _ _ h⟩
theorem anyIn_of_plain {md : Region.Mode} {S : World → Prop} (hq : ∀ a w, ¬ Q .outgrown a w) (hs : ∀ (i : Nat) (o : Oper), ops[i]? = some o → ∀ c, o.op ≠ .defer c) : ∀ (fuel : Nat) (listed : Array Bool) (a : Act) (w : World),
    wpAnyH P md ops Q S fuel listed a w → wpAnyIn (Fence.wide.inRound l) n P md ops Q fuel listed a w
  | 0, _, _, _, h => h
  | fuel + 1, _, _, _, h => ⟨h.1, fun i hi => opAtIn_of_plain hq hs (fun a' w' h' => anyIn_of_plain hq hs fuel _ a' w' h'.2) (h.2 i hi)⟩
theorem noDefer_spec {l : List Oper} (h : noDefer l = true) : ∀ (i : Nat) (o : Oper), l.toArray[i]? = some o → ∀ c, o.op ≠ .defer c := by
  intro i o ho c hc
  have hm : o ∈ l := by
    have := List.mem_of_getElem? (l := l) (i := i) (by simpa using ho)
    exact this
  have := List.all_eq_true.1 h o hm
  rw [hc] at this
  cases this
theorem drawnIn_of_plain {id : Nat} {L : List Oper} {a : Act} {w : World} (S : World → Prop) (hq : ∀ a w, ¬ Q .outgrown a w) (hd : noDefer L = true) (hm : P.follows .mixedOrders = true)
    (h : wpAnyH P .any L.toArray Q S L.toArray.size (Array.replicate L.toArray.size false) a w.drew) : (Code.region id L.toArray true).wpIn (Fence.wide.inRound l) n P Q a w :=
  wpIn_region_any hm (anyIn_of_plain hq (noDefer_spec hd) _ _ _ _ h)
end
end Go
namespace Go.Proofs.Ytclbjfeneegicaa
open Go.RowKit Go.Shelf
set_option linter.unusedVariables false
set_option maxRecDepth 100000
/-! ### blocks apart -/
def sets (L : List Value) : Nat → List Value → List Value
  | _, [] => L
  | o, v :: r => sets (L.set o v) (o + 1) r
theorem sets_len : ∀ (vs : List Value) (L : List Value) (o : Nat), (sets L o vs).length = L.length
  | [], L, o => rfl
  | v :: r, L, o => by rw [sets, sets_len r]; simp
theorem sets_mid : ∀ (vs B A C : List Value), vs.length = B.length → sets (A ++ (B ++ C)) A.length vs = A ++ (vs ++ C)
  | [], [], A, C, _ => rfl
  | [], _ :: _, A, C, h => by simp at h
  | _ :: _, [], A, C, h => by simp at h
  | v :: r, b :: B, A, C, h => by
    have e : (A ++ (b :: B ++ C)).set A.length v = (A ++ [v]) ++ (B ++ C) := by
      rw [List.set_append_right _ _ (Nat.le_refl _), Nat.sub_self]; simp
    have e2 : A.length + 1 = (A ++ [v]).length := by simp
    rw [sets, e, e2, sets_mid r B (A ++ [v]) C (by simpa using h)]
    simp
theorem owns_kept {w w' : World} {base : Nat} {e : TypeId} {size : Nat} {v : Value} {n : Nat} {xs : List Value} (h : w.ownsRow base e size v n xs) (hk : ∀ g, v.ownBlock = some g → w'.heap[g]? = w.heap[g]?) : w'.ownsRow base e size v n xs := by
  refine ⟨h.1, ?_⟩
  rcases h.2 with hn | ⟨g, cap, cur, rfl, hB, hg, rest⟩
  · exact .inl hn
  · exact .inr ⟨g, cap, cur, rfl, hB, (hk g rfl).trans hg, rest⟩
theorem own_tag {w : World} {base : Nat} {e : TypeId} {size : Nat} {v : Value} {n : Nat} {xs : List Value} (h : w.ownsRow base e size v n xs) {g : Nat} (hg : v.ownBlock = some g) : ∃ cur, w.heap[g]? = some (.cells cur e (0, 0)) := by
  rcases h.2 with ⟨rfl, _⟩ | ⟨g', cap, cur, rfl, hB, hh, rest⟩
  · simp [Value.ownBlock] at hg
  · simp [Value.ownBlock] at hg; subst hg; exact ⟨cur, hh⟩
theorem own_lt7 {w : World} {base : Nat} {e : TypeId} {size : Nat} {v : Value} {n : Nat} {xs : List Value} (h : w.ownsRow base e size v n xs) {g : Nat} (hg : v.ownBlock = some g) : g < w.heap.size := by
  obtain ⟨cur, hc⟩ := own_tag h hg
  exact (Array.getElem?_eq_some_iff.1 hc).1
theorem lt_of_heap {w : World} {k : Nat} {o : Obj} (h : w.heap[k]? = some o) : k < w.heap.size := (Array.getElem?_eq_some_iff.1 h).1
/-- But for blocks of S, what lay there lies there. -/
structure Off (S : Nat → Prop) (w w' : World) : Prop where
  os : w'.os = w.os
  tape : w'.tape = w.tape
  output : w'.output = w.output
  size : w.heap.size ≤ w'.heap.size
  block : ∀ k, k < w.heap.size → ¬ S k → w'.heap[k]? = w.heap[k]?
theorem Off.refl (S : Nat → Prop) (w : World) : Off S w w := ⟨rfl, rfl, rfl, Nat.le_refl _, fun _ _ _ => rfl⟩
theorem Off.trans {S : Nat → Prop} {a b c : World} (h : Off S a b) (k : Off (fun i => S i ∨ a.heap.size ≤ i) b c) : Off S a c :=
  ⟨k.os.trans h.os, k.tape.trans h.tape, k.output.trans h.output, Nat.le_trans h.size k.size, fun i hi hS =>
    (k.block i (Nat.lt_of_lt_of_le hi h.size) (fun hh => by rcases hh with hh | hh; exact hS hh; omega)).trans (h.block i hi hS)⟩
theorem Off.seq {S : Nat → Prop} {a b c : World} (h : Off S a b) (k : Off S b c) : Off S a c :=
  ⟨k.os.trans h.os, k.tape.trans h.tape, k.output.trans h.output, Nat.le_trans h.size k.size, fun i hi hS => (k.block i (Nat.lt_of_lt_of_le hi h.size) hS).trans (h.block i hi hS)⟩
theorem Off.cut {S : Nat → Prop} {a b : World} (h : Off (fun k => S k ∨ a.heap.size ≤ k) a b) : Off S a b :=
  ⟨h.os, h.tape, h.output, h.size, fun k hk hn => h.block k hk (fun hh => by rcases hh with hh | hh; exact hn hh; omega)⟩
theorem Off.mono {S S' : Nat → Prop} {a b : World} (h : Off S a b) (hS : ∀ k, S k → S' k) : Off S' a b := ⟨h.os, h.tape, h.output, h.size, fun k hk hn => h.block k hk (fun hh => hn (hS k hh))⟩
theorem Off.of_below {S : Nat → Prop} {a b : World} (h : Below a.heap.size a b) : Off S a b := ⟨h.os, h.tape, h.output, h.size, fun k hk _ => h.block k hk⟩
theorem Off.of_grown {S : Nat → Prop} {a b : World} {row : Option Nat} (h : a.grownBy b row) (hr : ∀ g, row = some g → S g) : Off S a b :=
  ⟨h.os, h.tape, h.output, h.size, fun k hk hn => h.block k hk (fun e => hn (hr k e.symm))⟩
theorem Off.below {S : Nat → Prop} {a b : World} {B : Nat} (h : Off S a b) (hS : ∀ k, S k → B ≤ k) (hB : B ≤ a.heap.size) : Below B a b :=
  ⟨h.os, h.tape, h.output, h.size, fun k hk => h.block k (by omega) (fun hh => by have := hS k hh; omega)⟩
theorem far {w w' : World} {row : Option Nat} (hg : w.grownBy w' row) {k : Nat} {o : Obj} (hk : w.heap[k]? = some o) (hr : ∀ g, row = some g → ∃ o', w.heap[g]? = some o' ∧ o' ≠ o) : w'.heap[k]? = some o := by
  rw [hg.block k (Array.getElem?_eq_some_iff.1 hk).1]
  · exact hk
  · intro e
    obtain ⟨o', h1, h2⟩ := hr k e.symm
    rw [hk] at h1
    exact h2 (Option.some.inj h1).symm
theorem own_far {w w' : World} {row : Option Nat} {base : Nat} {e : TypeId} {size : Nat} {v : Value} {n : Nat} {xs : List Value} (hg : w.grownBy w' row) (h : w.ownsRow base e size v n xs) (hr : ∀ g, row = some g → ∃ o', w.heap[g]? = some o' ∧ ∀ c, o' ≠ .cells c e (0, 0)) : w'.ownsRow base e size v n xs := by
  refine owns_kept h fun g hgb => ?_
  obtain ⟨cur, hc⟩ := own_tag h hgb
  rw [hc]
  exact far hg hc (fun g' hg' => by obtain ⟨o', h1, h2⟩ := hr g' hg'; exact ⟨o', h1, h2 _⟩)
theorem grown_set {w : World} {g o : Nat} (u : Value) : w.grownBy (w.setCell ⟨g, o, none⟩ u) (some g) :=
  ⟨rfl, rfl, rfl, by simp [World.setCell], fun k _ hk => Below.heap_setCell _ _ _ _ (fun e => hk (by rw [e]))⟩
theorem heap_set {w : World} {g o : Nat} {c : Array Value} {e : TypeId} {fz : Nat × Nat} (u : Value) (h : w.heap[g]? = some (.cells c e fz)) : (w.setCell ⟨g, o, none⟩ u).heap[g]? = some (.cells (c.setIfInBounds o u) e fz) := by
  simp [World.setCell, Array.getElem?_modify, h]
theorem owns_set {w : World} {base : Nat} {e : TypeId} {size : Nat} {g cap n : Nat} {xs : List Value} (h : w.ownsRow base e size (.slice (some ⟨g, 0, none⟩) n cap) n xs) {j : Nat} (u : Value) :
    (w.setCell ⟨g, j, none⟩ u).ownsRow base e size (.slice (some ⟨g, 0, none⟩) n cap) n (xs.set j u) := by
  refine ⟨by rw [List.length_set]; exact h.1, ?_⟩
  rcases h.2 with ⟨hn, _⟩ | ⟨g', cap', cur, hv, hB, hg, hc, hm, hs, ht⟩
  · cases hn
  · injection hv with e1 e2 e3
    injection e1 with e1
    injection e1 with e1
    subst e1 e3
    refine .inr ⟨g, cap, cur.setIfInBounds j u, rfl, hB, heap_set u hg, hc, hm, by simpa using hs, ?_⟩
    rw [Array.toList_setIfInBounds, List.take_set, ht]
/-- What an owned row's slice looks like. -/
theorem own_shape {w : World} {base : Nat} {e : TypeId} {size : Nat} {v : Value} {n : Nat} {xs : List Value} (h : w.ownsRow base e size v n xs) : ∃ a c, v = .slice a n c ∧ (a = none ∨ ∃ g, a = some ⟨g, 0, none⟩) ∧ n ≤ c := by
  rcases h.2 with ⟨rfl, rfl⟩ | ⟨g, cap, cur, rfl, _, _, hc, _⟩
  · exact ⟨none, 0, rfl, .inl rfl, Nat.le_refl _⟩
  · exact ⟨_, cap, rfl, .inr ⟨g, rfl⟩, hc⟩
theorem own_nil (w : World) (base : Nat) (e : TypeId) (size : Nat) : w.ownsRow base e size (.slice none 0 0) 0 [] := ⟨by simp, .inl ⟨rfl, rfl⟩⟩

section
variable {S : Nat → Prop} {w w' : World}
theorem Off.below_r {a b c : World} (h : Off S a b) (k : Below b.heap.size b c) : Off S a c := h.seq (Off.of_below k)
theorem Off.below_l {a b c : World} (h : Below a.heap.size a b) (k : Off S b c) : Off S a c := (Off.of_below h).seq k
/-- Block b holds these cells, as a variable of type t. -/
def Cb (b : Nat) (t : TypeId) (cs : Array Value) (w : World) : Prop := w.heap[b]? = some (.cells cs t (0, 0))
theorem Cb.below {b : Nat} {t : TypeId} {cs : Array Value} (h : Cb b t cs w) (hb : Below w.heap.size w w') : Cb b t cs w' := (hb.block b (lt_of_heap h)).trans h
theorem Cb.off {b : Nat} {t : TypeId} {cs : Array Value} {X : Nat → Prop} (h : Cb b t cs w) (ho : Off X w w') (hx : ¬ X b) : Cb b t cs w' := (ho.block b (lt_of_heap h) hx).trans h
theorem Cb.alloc {b : Nat} {t : TypeId} {cs : Array Value} (h : Cb b t cs w) (o : Obj) : Cb b t cs (w.alloc o) := (heap_alloc_old w o (lt_of_heap h)).trans h
theorem Cb.lt {b : Nat} {t : TypeId} {cs : Array Value} (h : Cb b t cs w) : b < w.heap.size := lt_of_heap h
theorem Cb.set {b : Nat} {t : TypeId} {cs : Array Value} (h : Cb b t cs w) (ds : Array Value) : Cb b t ds (w.setRow b ds) := setRow_heap _ _ _ ds _ _ h
theorem Cb.other {b c : Nat} {t : TypeId} {cs : Array Value} (h : Cb b t cs w) (hn : b ≠ c) (ds : Array Value) : Cb b t cs (w.setRow c ds) := (setRow_other w c b ds hn).trans h
theorem Cb.cell {b : Nat} {t : TypeId} {cs : Array Value} (h : Cb b t cs w) (o : Nat) : w.cell? ⟨b, o, none⟩ = cs[o]? := cell_of_row w b o _ _ _ h
theorem Cb.frozen {b : Nat} {t : TypeId} {cs : Array Value} (h : Cb b t cs w) (o : Nat) : w.frozen? ⟨b, o, none⟩ = false := by simp [World.frozen?, show w.heap[b]? = _ from h]
theorem cb_new (w : World) (t : TypeId) (cs : Array Value) : Cb w.heap.size t cs (w.alloc (.cells cs t)) := heap_alloc_new w _
theorem below_row {B b : Nat} {a : World} {cs : Array Value} (h : Below B a w) (hb : B ≤ b) : Below B a (w.setRow b cs) := below_setRow h hb cs
end
/-- A part of a row, loaded whole. -/
theorem wpList_load_midw {P : Program} {ops : Array Oper} {rest : List Oper} {op : Oper} {a : Act} {w : World} {Q : Exit → Act → World → Prop} (hw : Region.wanted op (yielded ops a.tmps) = true) (ty : TypeId) (x : Operand) (ho : op.op = .load ty x)
    (b o : Nat) (hx : a.eval x = .pointer (some ⟨b, o, none⟩)) (cs : List Value) (d : TypeDesc) (hc : w.rangeAt b o cs)
    (hu : P.underlying ty = some d) (hd : d.isRow = true) (hi : (P.info? ty).map (·.size) = some cs.length)
    (h : wpList P ops Q rest (a.put op.dst (.agg cs.toArray)) w) : wpList P ops Q (op :: rest) a w :=
  wpList_step fun K hK => by
    rw [if_pos hw]
    exact wp_load_mid ty x ho b o hx cs d hc hu hd hi (hK _ _ h)
theorem fold_sets (off : Nat) : ∀ (L : List Value) (k : Nat) (A : Array Value), ((L.zipIdx k).foldl (fun cs x => cs.setIfInBounds (off + x.2) x.1) A).toList = sets A.toList (off + k) L
  | [], k, A => rfl
  | v :: r, k, A => by
    rw [List.zipIdx_cons, List.foldl_cons, fold_sets off r (k + 1), sets]
    simp [Nat.add_assoc]
theorem fold_setsA (off : Nat) (c A : Array Value) : (c.zipIdx.foldl (fun cs (x : Value × Nat) => cs.setIfInBounds (off + x.2) x.1) A).toList = sets A.toList off c.toList := by
  rw [← Array.foldl_toList, Array.toList_zipIdx, fold_sets off c.toList 0 A, Nat.add_zero]
/-- The rest of a walk asks of a world only this. -/
theorem with_worldT {P : Program} {c : Code} {Q : Exit → Act → World → Prop} {a : Act} {W0 : World} (F : World → Prop) (h0 : F W0) (h : ∀ W, F W → c.wp P Q a W) : c.wp P Q a W0 := h _ h0
theorem with_worldTL {P : Program} {ops : Array Oper} {rest : List Oper} {Q : Exit → Act → World → Prop} {a : Act} {W0 : World} (F : World → Prop) (h0 : F W0) (h : ∀ W, F W → wpList P ops Q rest a W) : wpList P ops Q rest a W0 := h _ h0
section
variable {w0 w W W' : World}
theorem cb_grown {b : Nat} {t : TypeId} {cs : Array Value} {row : Option Nat} (h : Cb b t cs W) (hg : W.grownBy W' row) (hr : ∀ r, row = some r → ∃ o : Obj, W.heap[r]? = some o ∧ o.isCells = false) : Cb b t cs W' := by
  refine (hg.block b h.lt (fun e => ?_)).trans h
  obtain ⟨o, ho, hc⟩ := hr b e.symm
  rw [show W.heap[b]? = _ from h] at ho
  cases ho
  cases hc
theorem own_grown {row : Option Nat} {e : TypeId} {base sz n : Nat} {v : Value} {cs : List Value} (h : W.ownsRow base e sz v n cs) (hg : W.grownBy W' row) (hr : ∀ r, row = some r → ∃ o : Obj, W.heap[r]? = some o ∧ o.isCells = false) : W'.ownsRow base e sz v n cs :=
  owns_kept h fun g hgb => by
    obtain ⟨cur, hc⟩ := own_tag h hgb
    have hcb : Cb g e cur W := hc
    exact (cb_grown hcb hg hr).trans hc.symm
theorem keeps_off {S : Nat → Prop} (h : Off S W W') (hs : ∀ k, S k → k < W.heap.size → ∃ cs t f, W.heap[k]? = some (.cells cs t f)) : KeepsOthers W W' :=
  ⟨h.size, fun k o hk ho => by
    by_cases hS : S k
    · obtain ⟨cs, t, f, e⟩ := hs k hS (lt_of_heap hk)
      rw [e] at hk
      cases hk
      cases ho
    · exact (h.block k (lt_of_heap hk) hS).trans hk⟩
end
theorem with_worldI {F : Fence} {n : Nat} {P : Program} {c : Code} {Q : Exit → Act → World → Prop} {a : Act} {W0 : World} (G : World → Prop) (h0 : G W0) (h : ∀ W, G W → c.wpIn F n P Q a W) : c.wpIn F n P Q a W0 := h _ h0
attribute [local go_sem] Oper.semAt_some
/-- What a round keeps: all that lay below n0, but for some. -/
structure KpX (n0 : Nat) (X : Nat → Prop) (W W' : World) : Prop where
  os : W'.os = W.os
  tape : W'.tape = W.tape
  output : W'.output = W.output
  size : W.heap.size ≤ W'.heap.size
  keep : ∀ k, k < n0 → k < W.heap.size → ¬ X k → W'.heap[k]? = W.heap[k]?
section
variable {n0 : Nat} {X S : Nat → Prop} {W W' W1 w w' : World}
theorem KpX.refl (n0 : Nat) (X : Nat → Prop) (W : World) : KpX n0 X W W := ⟨rfl, rfl, rfl, Nat.le_refl _, fun _ _ _ _ => rfl⟩
theorem KpX.trans (h : KpX n0 X W W1) (k : KpX n0 X W1 W') : KpX n0 X W W' := ⟨k.os.trans h.os, k.tape.trans h.tape, k.output.trans h.output, Nat.le_trans h.size k.size, fun i hi hl hx => (k.keep i hi (Nat.lt_of_lt_of_le hl h.size) hx).trans (h.keep i hi hl hx)⟩
theorem KpX.of_below (h : Below W.heap.size W W') : KpX n0 X W W' := ⟨h.os, h.tape, h.output, h.size, fun k _ hk _ => h.block k hk⟩
theorem KpX.of_off (h : Off X W W') : KpX n0 X W W' := ⟨h.os, h.tape, h.output, h.size, fun k _ hk hx => h.block k hk hx⟩
theorem KpX.off (h : KpX n0 X W W') : Off (fun k => X k ∨ n0 ≤ k) W W' := ⟨h.os, h.tape, h.output, h.size, fun k hk hx => h.keep k (by
  rcases Nat.lt_or_ge k n0 with h | h
  · exact h
  · exact absurd (.inr h) hx) hk (fun hh => hx (.inl hh))⟩
theorem KpX.cb {b : Nat} {t : TypeId} {cs : Array Value} (h : KpX n0 X W W') (hc : Cb b t cs W) (hb : b < n0 ∧ ¬ X b) : Cb b t cs W' := hc.off h.off (fun hh => by
  rcases hh with hh | hh
  · exact hb.2 hh
  · omega)
end
/-- The act at a range, under one name. -/
theorem act_gen {F : Fence} {n : Nat} {P : Program} {c : Code} {Q : Exit → Act → World → Prop} {a : Act} {w : World} (h : ∀ a', a = a' → c.wpIn F n P Q a' w) : c.wpIn F n P Q a w := h a rfl
section
variable {W W' : World}
theorem KpX.putObj {n0 : Nat} {X : Nat → Prop} (W : World) {k : Nat} {o : Obj} (o' : Obj) (hk : n0 ≤ k) : KpX n0 X W (W.putObj k o') :=
  have hG := grownBy_putObj' W k o'
  ⟨hG.os, hG.tape, hG.output, hG.size, fun i hi hl hx => hG.block i hl (fun e => by injection e with e; omega)⟩
end
/-- A whole row out of its block, at an operation that is wanted, whatever it is guarded by. -/
theorem wpList_load_roww {P : Program} {ops : Array Oper} {rest : List Oper} {o : Oper} {a : Act} {w : World} {Q : Exit → Act → World → Prop} (ty : TypeId) (x : Operand) (ho : o.op = .load ty x)
    (g : Nat) (hx : a.eval x = .pointer (some ⟨g, 0, none⟩)) (hw : Region.wanted o (yielded ops a.tmps) = true) (t : TypeId) (cs : Array Value) (fr : Nat × Nat) (d : TypeDesc) (hg : w.heap[g]? = some (.cells cs t fr))
    (hu : P.underlying ty = some d) (hd : (match d with | .struct _ | .array _ _ => true | _ => false) = true) (hi : (P.info? ty).map (·.size) = some cs.size)
    (h : wpList P ops Q rest (a.put o.dst (.agg cs)) w) : wpList P ops Q (o :: rest) a w :=
  wpList_step fun K hK => by
    rw [if_pos hw]
    exact wp_load_row ty x ho g hx t cs fr d hg hu hd hi (hK _ _ h)

/-! ### a region that draws its order: whatever may come up -/
section
variable {P : Program} {l : List Oper} {Q : Exit → Act → World → Prop} {md : Region.Mode} {S : World → Prop} {fuel : Nat} {listed : Array Bool} {a : Act} {w : World}
theorem h_all1 {i : Nat} (hr : Region.ready md l.toArray listed = [i])
    (h1 : wpOp P l.toArray Q i (fun a' w' => S w' ∧ wpAnyH P md l.toArray Q S fuel (listed.setIfInBounds i true) a' w') a w) : wpAnyH P md l.toArray Q S (fuel + 1) listed a w :=
  wpAnyH_all hr (by simp) fun x hx => by simp at hx; subst hx; exact h1
theorem h_all2 {i j : Nat} (hr : Region.ready md l.toArray listed = [i, j])
    (h1 : wpOp P l.toArray Q i (fun a' w' => S w' ∧ wpAnyH P md l.toArray Q S fuel (listed.setIfInBounds i true) a' w') a w)
    (h2 : wpOp P l.toArray Q j (fun a' w' => S w' ∧ wpAnyH P md l.toArray Q S fuel (listed.setIfInBounds j true) a' w') a w) : wpAnyH P md l.toArray Q S (fuel + 1) listed a w :=
  wpAnyH_all hr (by simp) fun x hx => by
    simp at hx
    rcases hx with rfl | rfl
    · exact h1
    · exact h2
theorem h_all3 {i j k : Nat} (hr : Region.ready md l.toArray listed = [i, j, k])
    (h1 : wpOp P l.toArray Q i (fun a' w' => S w' ∧ wpAnyH P md l.toArray Q S fuel (listed.setIfInBounds i true) a' w') a w)
    (h2 : wpOp P l.toArray Q j (fun a' w' => S w' ∧ wpAnyH P md l.toArray Q S fuel (listed.setIfInBounds j true) a' w') a w)
    (h3 : wpOp P l.toArray Q k (fun a' w' => S w' ∧ wpAnyH P md l.toArray Q S fuel (listed.setIfInBounds k true) a' w') a w) : wpAnyH P md l.toArray Q S (fuel + 1) listed a w :=
  wpAnyH_all hr (by simp) fun x hx => by
    simp at hx
    rcases hx with rfl | rfl | rfl
    · exact h1
    · exact h2
    · exact h3
/-- A call. -/
theorem o_call {R : Act → World → Prop} {i : Nat} {oi : Oper} {f : FuncId} {args : Array Value} (hi : l[i]? = some oi) (hw : Region.wanted oi (yielded l.toArray a.tmps) = true)
    (hv : (execOp a.eval oi).run P w = .ok (.enter f args) w)
    (hc : Calls P f args w fun e w' => ∃ v, e = .returned v ∧ R (a.put oi.dst v) w') : wpOp P l.toArray Q i R a w := by
  have hi2 : l.toArray[i]? = some oi := by simpa using hi
  unfold wpOp
  simp only [hi2, hw, if_true]
  left
  unfold Oper.wp
  rw [hv]
  simp only [Oper.upon]
  refine hc.mono fun e w' ⟨v, he, h1⟩ => ?_
  subst he
  exact h1
/-- An operation by a law of its own. -/
theorem o_step {R : Act → World → Prop} {i : Nat} {oi : Oper} (hi : l[i]? = some oi) (hw : Region.wanted oi (yielded l.toArray a.tmps) = true)
    (h : oi.wp P a w R Q) : wpOp P l.toArray Q i R a w := by
  have hi2 : l.toArray[i]? = some oi := by simpa using hi
  unfold wpOp
  simp only [hi2, hw, if_true]
  left
  exact h
theorem h_val {i : Nat} {oi : Oper} {v : Value} (hi : l[i]? = some oi) (hs : Region.noSelect l.toArray = true) (hf : Region.free md l.toArray listed i = true) (hr : (Region.ready md l.toArray listed).contains i = true)
    (hQ : ∀ c a w, Q (.panic c) (a.put oi.dst v) w → Q (.panic c) a w) (hw : Region.wanted oi (yielded l.toArray a.tmps) = true) (hv : ∀ w, S w → (execOp a.eval oi).run P w = .ok (.value v) w) (hS : S w)
    (h : wpAnyH P md l.toArray Q S fuel (listed.setIfInBounds i true) (a.put oi.dst v) w) : wpAnyH P md l.toArray Q S (fuel + 1) listed a w :=
  wpAnyH_take (by simpa using hi) hs hf hr hQ (.inl ⟨hw, hv⟩) hS h
theorem h_call {i : Nat} {oi : Oper} {f : FuncId} {args : Array Value} (hi : l[i]? = some oi) (hr : Region.ready md l.toArray listed = [i]) (hw : Region.wanted oi (yielded l.toArray a.tmps) = true)
    (hv : (execOp a.eval oi).run P w = .ok (.enter f args) w)
    (hc : Calls P f args w fun e w' => ∃ v, e = .returned v ∧ S w' ∧ wpAnyH P md l.toArray Q S fuel (listed.setIfInBounds i true) (a.put oi.dst v) w') : wpAnyH P md l.toArray Q S (fuel + 1) listed a w := by
  refine wpAnyH_all hr (by simp) fun j hj => ?_
  simp at hj
  subst hj
  have hi2 : l.toArray[j]? = some oi := by simpa using hi
  unfold wpOp
  simp only [hi2, hw, if_true]
  left
  unfold Oper.wp
  rw [hv]
  simp only [Oper.upon]
  refine hc.mono fun e w' ⟨v, he, h1, h2⟩ => ?_
  subst he
  exact ⟨h1, h2⟩
theorem h_start {id : Nat} (hm : P.follows .mixedOrders = true) (h : wpAnyH P .any l.toArray Q S l.toArray.size (Array.replicate l.toArray.size false) a w.drew) : (Code.region id l.toArray true).wp P Q a w := wp_region_held hm h
theorem h_done (hr : Region.ready md l.toArray listed = []) (h : Q .normal a w) : wpAnyH P md l.toArray Q S fuel listed a w := wpAnyH_done hr h _
/-- An operation that turns the world, the only one that may come up. -/
theorem h_step {i : Nat} {oi : Oper} (hi : l[i]? = some oi) (hr : Region.ready md l.toArray listed = [i]) (hw : Region.wanted oi (yielded l.toArray a.tmps) = true)
    (h : ∀ K : Act → World → Prop, (∀ a' w', S w' → wpAnyH P md l.toArray Q S fuel (listed.setIfInBounds i true) a' w' → K a' w') → oi.wp P a w K Q) : wpAnyH P md l.toArray Q S (fuel + 1) listed a w := by
  refine wpAnyH_all hr (by simp) fun j hj => ?_
  simp at hj
  subst hj
  have hi2 : l.toArray[j]? = some oi := by simpa using hi
  unfold wpOp
  simp only [hi2, hw, if_true]
  left
  exact h _ fun a' w' h1 h2 => ⟨h1, h2⟩
end
theorem wp_val {P : Program} {op : Oper} {a : Act} {w : World} {K : Act → World → Prop} {Q : Exit → Act → World → Prop} (v : Value) (hv : (execOp a.eval op).run P w = .ok (.value v) w) (h : K (a.put op.dst v) w) : op.wp P a w K Q := by
  unfold Oper.wp
  rw [hv]
  exact h
theorem wp_skip {P : Program} {op : Oper} {a : Act} {w w' : World} {K : Act → World → Prop} {Q : Exit → Act → World → Prop} (hv : (execOp a.eval op).run P w = .ok .skip w') (h : K (a.put op.dst undef) w') : op.wp P a w K Q := by
  unfold Oper.wp
  rw [hv]
  exact h
/-- A region that draws its order, as it is handed to the hand walk, within a round or not. -/
theorem h_skip {P : Program} {l : List Oper} {Q : Exit → Act → World → Prop} {md : Region.Mode} {S : World → Prop} {fuel : Nat} {listed : Array Bool} {a : Act} {w : World} {i : Nat} {oi : Oper} (hi : l[i]? = some oi) (hs : Region.noSelect l.toArray = true) (hf : Region.free md l.toArray listed i = true) (hr : (Region.ready md l.toArray listed).contains i = true)
    (hQ : ∀ c a w, Q (.panic c) (a.put oi.dst undef) w → Q (.panic c) a w) (hw : Region.wanted oi (yielded l.toArray a.tmps) = false) (hS : S w)
    (h : wpAnyH P md l.toArray Q S fuel (listed.setIfInBounds i true) (a.put oi.dst undef) w) : wpAnyH P md l.toArray Q S (fuel + 1) listed a w :=
  wpAnyH_take (by simpa using hi) hs hf hr hQ (.inr ⟨hw, rfl⟩) hS h
end Go.Proofs.Ytclbjfeneegicaa
