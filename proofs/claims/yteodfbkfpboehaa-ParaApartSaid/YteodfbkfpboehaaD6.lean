
import Derived.Test.YteodfbkfpboehaaD5
import Derived.Deep.RegionHeld3
import Derived.Deep.RegionLaw
import Derived.Deep.Cut
import Derived.Deep.MidRow
import Derived.Great.BuildSlice
import Derived.Great.Ranges
import Derived.Great.Walk
import Derived.Deep.WholeRow
import Derived.Carry
import Derived.ChangeKeysEq
import Derived.Laws.StructEq
import Derived.Deep.RegionHeld
import Derived.Maps.RangeWalk
import Derived.Deep.AppendLies
import Derived.RegionTactic
import Derived.WideMake
/- NA: blocks apart; an arena as plain data, and in memory -/
namespace Go.Proofs.Yteodfbkfpboehaa
open Go.RowKit
set_option linter.unusedVariables false

/-! ### blocks apart -/
theorem owns_kept {w w' : World} {base : Nat} {e : TypeId} {size : Nat} {v : Value} {n : Nat} {xs : List Value} (h : w.ownsRow base e size v n xs) (hk : ∀ g, v.ownBlock = some g → w'.heap[g]? = w.heap[g]?) : w'.ownsRow base e size v n xs := by
  refine ⟨h.1, ?_⟩
  rcases h.2 with hn | ⟨g, cap, cur, rfl, hB, hg, rest⟩
  · exact .inl hn
  · exact .inr ⟨g, cap, cur, rfl, hB, (hk g rfl).trans hg, rest⟩
theorem own_tag {w : World} {base : Nat} {e : TypeId} {size : Nat} {v : Value} {n : Nat} {xs : List Value} (h : w.ownsRow base e size v n xs) {g : Nat} (hg : v.ownBlock = some g) : ∃ cur, w.heap[g]? = some (.cells cur e (0, 0)) := by
  rcases h.2 with ⟨rfl, _⟩ | ⟨g', cap, cur, rfl, hB, hh, rest⟩
  · simp [Value.ownBlock] at hg
  · simp [Value.ownBlock] at hg; subst hg; exact ⟨cur, hh⟩
theorem own_lt7 {w : World} {base : Nat} {e : TypeId} {size : Nat} {v : Value} {n : Nat} {xs : List Value} (h : w.ownsRow base e size v n xs) {g : Nat} (hg : v.ownBlock = some g) : g < w.heap.size := by
  obtain ⟨cur, hc⟩ := own_tag h hg
  exact (Array.getElem?_eq_some_iff.1 hc).1
theorem lt_of_heap {w : World} {k : Nat} {o : Obj} (h : w.heap[k]? = some o) : k < w.heap.size := (Array.getElem?_eq_some_iff.1 h).1
/-- But for blocks of S, what lay there lies there. -/
structure Off (S : Nat → Prop) (w w' : World) : Prop where
  os : w'.os = w.os
  tape : w'.tape = w.tape
  output : w'.output = w.output
  size : w.heap.size ≤ w'.heap.size
  block : ∀ k, k < w.heap.size → ¬ S k → w'.heap[k]? = w.heap[k]?
theorem Off.refl (S : Nat → Prop) (w : World) : Off S w w := ⟨rfl, rfl, rfl, Nat.le_refl _, fun _ _ _ => rfl⟩
theorem Off.trans {S : Nat → Prop} {a b c : World} (h : Off S a b) (k : Off (fun i => S i ∨ a.heap.size ≤ i) b c) : Off S a c :=
  ⟨k.os.trans h.os, k.tape.trans h.tape, k.output.trans h.output, Nat.le_trans h.size k.size, fun i hi hS =>
    (k.block i (Nat.lt_of_lt_of_le hi h.size) (fun hh => by rcases hh with hh | hh; exact hS hh; omega)).trans (h.block i hi hS)⟩
theorem Off.seq {S : Nat → Prop} {a b c : World} (h : Off S a b) (k : Off S b c) : Off S a c :=
  ⟨k.os.trans h.os, k.tape.trans h.tape, k.output.trans h.output, Nat.le_trans h.size k.size, fun i hi hS => (k.block i (Nat.lt_of_lt_of_le hi h.size) hS).trans (h.block i hi hS)⟩
theorem Off.cut {S : Nat → Prop} {a b : World} (h : Off (fun k => S k ∨ a.heap.size ≤ k) a b) : Off S a b :=
  ⟨h.os, h.tape, h.output, h.size, fun k hk hn => h.block k hk (fun hh => by rcases hh with hh | hh; exact hn hh; omega)⟩
theorem Off.mono {S S' : Nat → Prop} {a b : World} (h : Off S a b) (hS : ∀ k, S k → S' k) : Off S' a b := ⟨h.os, h.tape, h.output, h.size, fun k hk hn => h.block k hk (fun hh => hn (hS k hh))⟩
theorem Off.of_below {S : Nat → Prop} {a b : World} (h : Below a.heap.size a b) : Off S a b := ⟨h.os, h.tape, h.output, h.size, fun k hk _ => h.block k hk⟩
theorem Off.of_grown {S : Nat → Prop} {a b : World} {row : Option Nat} (h : a.grownBy b row) (hr : ∀ g, row = some g → S g) : Off S a b :=
  ⟨h.os, h.tape, h.output, h.size, fun k hk hn => h.block k hk (fun e => hn (hr k e.symm))⟩
theorem Off.below {S : Nat → Prop} {a b : World} {B : Nat} (h : Off S a b) (hS : ∀ k, S k → B ≤ k) (hB : B ≤ a.heap.size) : Below B a b :=
  ⟨h.os, h.tape, h.output, h.size, fun k hk => h.block k (by omega) (fun hh => by have := hS k hh; omega)⟩
theorem farN {w w' : World} {row : Option Nat} (hg : w.grownBy w' row) {k : Nat} {o : Obj} (hk : w.heap[k]? = some o) (hr : ∀ g, row = some g → ∃ o', w.heap[g]? = some o' ∧ o' ≠ o) : w'.heap[k]? = some o := by
  rw [hg.block k (Array.getElem?_eq_some_iff.1 hk).1]
  · exact hk
  · intro e
    obtain ⟨o', h1, h2⟩ := hr k e.symm
    rw [hk] at h1
    exact h2 (Option.some.inj h1).symm
theorem own_far {w w' : World} {row : Option Nat} {base : Nat} {e : TypeId} {size : Nat} {v : Value} {n : Nat} {xs : List Value} (hg : w.grownBy w' row) (h : w.ownsRow base e size v n xs) (hr : ∀ g, row = some g → ∃ o', w.heap[g]? = some o' ∧ ∀ c, o' ≠ .cells c e (0, 0)) : w'.ownsRow base e size v n xs := by
  refine owns_kept h fun g hgb => ?_
  obtain ⟨cur, hc⟩ := own_tag h hgb
  rw [hc]
  exact farN hg hc (fun g' hg' => by obtain ⟨o', h1, h2⟩ := hr g' hg'; exact ⟨o', h1, h2 _⟩)
theorem grown_set {w : World} {g o : Nat} (u : Value) : w.grownBy (w.setCell ⟨g, o, none⟩ u) (some g) :=
  ⟨rfl, rfl, rfl, by simp [World.setCell], fun k _ hk => Below.heap_setCell _ _ _ _ (fun e => hk (by rw [e]))⟩
theorem heap_set {w : World} {g o : Nat} {c : Array Value} {e : TypeId} {fz : Nat × Nat} (u : Value) (h : w.heap[g]? = some (.cells c e fz)) : (w.setCell ⟨g, o, none⟩ u).heap[g]? = some (.cells (c.setIfInBounds o u) e fz) := by
  simp [World.setCell, Array.getElem?_modify, h]
theorem owns_set {w : World} {base : Nat} {e : TypeId} {size : Nat} {g cap n : Nat} {xs : List Value} (h : w.ownsRow base e size (.slice (some ⟨g, 0, none⟩) n cap) n xs) {j : Nat} (u : Value) :
    (w.setCell ⟨g, j, none⟩ u).ownsRow base e size (.slice (some ⟨g, 0, none⟩) n cap) n (xs.set j u) := by
  refine ⟨by rw [List.length_set]; exact h.1, ?_⟩
  rcases h.2 with ⟨hn, _⟩ | ⟨g', cap', cur, hv, hB, hg, hc, hm, hs, ht⟩
  · cases hn
  · injection hv with e1 e2 e3
    injection e1 with e1
    injection e1 with e1
    subst e1 e3
    refine .inr ⟨g, cap, cur.setIfInBounds j u, rfl, hB, heap_set u hg, hc, hm, by simpa using hs, ?_⟩
    rw [Array.toList_setIfInBounds, List.take_set, ht]
/-- What an owned row's slice looks like. -/
theorem own_shape {w : World} {base : Nat} {e : TypeId} {size : Nat} {v : Value} {n : Nat} {xs : List Value} (h : w.ownsRow base e size v n xs) : ∃ a c, v = .slice a n c ∧ (a = none ∨ ∃ g, a = some ⟨g, 0, none⟩) ∧ n ≤ c := by
  rcases h.2 with ⟨rfl, rfl⟩ | ⟨g, cap, cur, rfl, _, _, hc, _⟩
  · exact ⟨none, 0, rfl, .inl rfl, Nat.le_refl _⟩
  · exact ⟨_, cap, rfl, .inr ⟨g, rfl⟩, hc⟩
theorem own_nil (w : World) (base : Nat) (e : TypeId) (size : Nat) : w.ownsRow base e size (.slice none 0 0) 0 [] := ⟨by simp, .inl ⟨rfl, rfl⟩⟩

/-! ### an arena as plain data -/
/-- How things lie: the types of an arena, its state, a place; a thing's value, the zero one. -/
structure Kd (α : Type) where
  tA : TypeId
  tS : TypeId
  tP : TypeId
  enc : α → Value
  z : Value
  one : ∀ x, (enc x).oneCell' = true
  oneZ : z.oneCell' = true
  nAS : tA ≠ tS
  nAP : tA ≠ tP
  nSP : tS ≠ tP
  nAI : tA ≠ 3
  nSI : tS ≠ 3
  nPI : tP ≠ 3
@[reducible] def plc {α : Type} (K : Kd α) : Option α → List Value
  | none => [.bool false, K.z]
  | some x => [.bool true, K.enc x]
def plC {α : Type} (K : Kd α) : Cel (Option α) := ⟨plc K, 2, fun x => by cases x <;> rfl, fun x u hu => by
  cases x with
  | none =>
    rcases List.mem_cons.1 hu with rfl | hu
    · rfl
    · obtain rfl := List.mem_singleton.1 hu
      exact K.oneZ
  | some x =>
    rcases List.mem_cons.1 hu with rfl | hu
    · rfl
    · obtain rfl := List.mem_singleton.1 hu
      exact K.one x, by decide⟩
/-- Places by their numbers, and the numbers of those that are free, the one that was freed last at the end. -/
structure ArS (α : Type) where
  ps : List (Option α)
  free : List Nat
section
variable {α : Type}
def ArS.at_ (A : ArS α) (i : Nat) : Option α := A.ps.getD i none
def ArS.has (A : ArS α) (i : Int) : Bool := decide (0 ≤ i) && (A.at_ i.toNat).isSome
def ArS.fresh (A : ArS α) : Nat := match A.free.getLast? with
  | some i => i
  | none => A.ps.length
def ArS.take (A : ArS α) (x : α) : ArS α := match A.free.getLast? with
  | some i => ⟨A.ps.set i (some x), A.free.dropLast⟩
  | none => ⟨A.ps ++ [some x], A.free⟩
def ArS.out (A : ArS α) (i : Nat) : ArS α := ⟨A.ps.set i none, A.free ++ [i]⟩
def ArS.put (A : ArS α) (i : Nat) (x : α) : ArS α := ⟨A.ps.set i (some x), A.free⟩
def ArS.len (A : ArS α) : Nat := A.ps.length - A.free.length
def newA : ArS α := ⟨[], []⟩
/-- How many are taken. -/
def cnt (l : List (Option α)) : Nat := l.countP Option.isSome
structure ArS.Ok (A : ArS α) : Prop where
  freeB : ∀ i ∈ A.free, i < A.ps.length ∧ A.at_ i = none
  freeN : A.free.Nodup
  cnt : cnt A.ps + A.free.length = A.ps.length
/-- Nothing is greater than the number of calls. -/
structure ArS.Le (A : ArS α) (n : Nat) : Prop where
  ps : A.ps.length ≤ n
  free : A.free.length ≤ n
theorem ArS.Le.mono {A : ArS α} {n m : Nat} (h : A.Le n) (hm : n ≤ m) : A.Le m := ⟨Nat.le_trans h.ps hm, Nat.le_trans h.free hm⟩
theorem getD_setA (l : List (Option α)) (i j : Nat) (e : Option α) : (l.set i e).getD j none = if j = i ∧ i < l.length then e else l.getD j none := by
  simp only [List.getD_eq_getElem?_getD, List.getElem?_set]
  by_cases h : i = j
  · subst h
    by_cases h2 : i < l.length
    · simp [h2]
    · simp [h2]
  · have : ¬ j = i := fun e => h e.symm
    simp [h, this]
theorem getD_snocA (l : List (Option α)) (j : Nat) (e : Option α) : (l ++ [e]).getD j none = if j = l.length then e else l.getD j none := by
  simp only [List.getD_eq_getElem?_getD]
  by_cases h : j = l.length
  · subst h; simp
  · rw [if_neg h]
    by_cases h2 : j < l.length
    · rw [List.getElem?_append_left h2]
    · rw [List.getElem?_eq_none (by simp; omega), List.getElem?_eq_none (by omega)]
theorem at_lt {A : ArS α} {i : Nat} {x : α} (h : A.at_ i = some x) : i < A.ps.length := by
  unfold ArS.at_ at h
  rw [List.getD_eq_getElem?_getD] at h
  rcases Nat.lt_or_ge i A.ps.length with hl | hl
  · exact hl
  · rw [List.getElem?_eq_none hl] at h; cases h
theorem at_get {A : ArS α} {i : Nat} (h : i < A.ps.length) : A.ps[i]? = some (A.at_ i) := by
  unfold ArS.at_
  rw [List.getD_eq_getElem?_getD, List.getElem?_eq_getElem h]; rfl
theorem at_ge {A : ArS α} {i : Nat} (h : A.ps.length ≤ i) : A.at_ i = none := by
  unfold ArS.at_
  rw [List.getD_eq_getElem?_getD, List.getElem?_eq_none h]; rfl
theorem has_some {A : ArS α} {i : Int} (h : A.has i = true) : ∃ (k : Nat) (x : α), i = k ∧ A.at_ k = some x ∧ k < A.ps.length := by
  unfold ArS.has at h
  rw [Bool.and_eq_true, decide_eq_true_iff] at h
  obtain ⟨h1, h2⟩ := h
  obtain ⟨x, hx⟩ := Option.isSome_iff_exists.1 h2
  exact ⟨i.toNat, x, by omega, hx, at_lt hx⟩
theorem some_has {A : ArS α} {k : Nat} {x : α} (h : A.at_ k = some x) : A.has (k : Nat) = true := by
  unfold ArS.has
  rw [Int.toNat_natCast, h]
  simp
theorem has_nat (A : ArS α) (k : Nat) : A.has (k : Nat) = (A.at_ k).isSome := by
  unfold ArS.has
  rw [Int.toNat_natCast]
  simp
theorem has_neg {A : ArS α} {i : Int} (h : i < 0) : A.has i = false := by
  unfold ArS.has
  have : decide (0 ≤ i) = false := by simpa using h
  rw [this]; rfl
theorem has_lt {A : ArS α} {i : Int} (h : A.has i = true) : 0 ≤ i ∧ i < A.ps.length := by
  obtain ⟨k, x, rfl, _, h3⟩ := has_some h
  omega
theorem has_ge {A : ArS α} {i : Int} (h : A.ps.length ≤ i) : A.has i = false := by
  cases hh : A.has i with
  | false => rfl
  | true => have := has_lt hh; omega

theorem cnt_set (l : List (Option α)) (i : Nat) (e : Option α) (h : i < l.length) : cnt (l.set i e) + (if (l.getD i none).isSome then 1 else 0) = cnt l + if e.isSome then 1 else 0 := by
  induction l generalizing i with
  | nil => simp at h
  | cons a r ih =>
    cases i with
    | zero =>
      simp only [List.set_cons_zero, cnt, List.countP_cons, List.getD_cons_zero]
      omega
    | succ i =>
      have := ih i (by simpa using h)
      simp only [List.set_cons_succ, cnt, List.countP_cons, List.getD_cons_succ] at this ⊢
      omega
theorem cnt_snoc (l : List (Option α)) (x : α) : cnt (l ++ [some x]) = cnt l + 1 := by simp [cnt]
theorem ok_newA : (newA : ArS α).Ok := ⟨fun i hi => by simp [newA] at hi, List.nodup_nil, by simp [newA, cnt]⟩
theorem le_newA (n : Nat) : (newA : ArS α).Le n := ⟨by simp [newA], by simp [newA]⟩

theorem freshA {A : ArS α} (h : A.Ok) : A.at_ A.fresh = none ∧ A.fresh ≤ A.ps.length := by
  unfold ArS.fresh
  cases hf : A.free.getLast? with
  | some i => obtain ⟨h1, h2⟩ := h.freeB i (List.mem_of_getLast? hf); exact ⟨h2, by simp; omega⟩
  | none => exact ⟨at_ge (Nat.le_refl _), Nat.le_refl _⟩
theorem at_take {A : ArS α} (h : A.Ok) (x : α) (j : Nat) : (A.take x).at_ j = if j = A.fresh then some x else A.at_ j := by
  unfold ArS.take ArS.fresh
  cases hf : A.free.getLast? with
  | some i =>
    obtain ⟨h1, h2⟩ := h.freeB i (List.mem_of_getLast? hf)
    show (A.ps.set i (some x)).getD j none = _
    rw [getD_setA]
    by_cases hj : j = i
    · rw [if_pos ⟨hj, h1⟩, if_pos hj]
    · rw [if_neg (fun hc => hj hc.1), if_neg hj]; rfl
  | none =>
    show (A.ps ++ [some x]).getD j none = _
    rw [getD_snocA]
    rfl
theorem at_out {A : ArS α} (i j : Nat) : (A.out i).at_ j = if j = i then none else A.at_ j := by
  unfold ArS.out ArS.at_
  rw [getD_setA]
  by_cases hj : j = i
  · subst hj
    rw [if_pos rfl]
    split
    · rfl
    · rename_i hc
      have : A.ps.length ≤ j := by omega
      simp [List.getD_eq_getElem?_getD, List.getElem?_eq_none this]
  · rw [if_neg (fun hc => hj hc.1), if_neg hj]
theorem at_put {A : ArS α} {i : Nat} (hi : i < A.ps.length) (x : α) (j : Nat) : (A.put i x).at_ j = if j = i then some x else A.at_ j := by
  unfold ArS.put ArS.at_
  rw [getD_setA]
  by_cases hj : j = i
  · rw [if_pos ⟨hj, hi⟩, if_pos hj]
  · rw [if_neg (fun hc => hj hc.1), if_neg hj]
theorem nodup_dropLast {l : List Nat} (h : l.Nodup) : l.dropLast.Nodup := h.sublist (List.dropLast_sublist l)
theorem last_not {l : List Nat} {i : Nat} (h : l.Nodup) (hi : l.getLast? = some i) : i ∉ l.dropLast := by
  obtain ⟨m, rfl⟩ := List.getLast?_eq_some_iff.1 hi
  intro hm
  rw [List.dropLast_concat] at hm
  exact (List.nodup_append.1 h).2.2 i hm i (by simp) rfl
theorem ok_take {A : ArS α} (h : A.Ok) (x : α) : (A.take x).Ok := by
  have hat := at_take h x
  unfold ArS.fresh at hat
  revert hat
  unfold ArS.take
  cases hf : A.free.getLast? with
  | some i =>
    intro hat
    obtain ⟨h1, h2⟩ := h.freeB i (List.mem_of_getLast? hf)
    have hpos : 0 < A.free.length := List.length_pos_of_mem (List.mem_of_getLast? hf)
    refine ⟨fun j hj => ?_, nodup_dropLast h.freeN, ?_⟩
    · have hm := (List.dropLast_sublist _).subset hj
      obtain ⟨q1, q2⟩ := h.freeB j hm
      have hne : j ≠ i := fun e => last_not h.freeN hf (e ▸ hj)
      refine ⟨by simpa using q1, ?_⟩
      rw [hat, if_neg (by simpa using hne)]; exact q2
    · have hc := cnt_set A.ps i (some x) h1
      have h0 := h.cnt
      have e : A.ps.getD i none = none := h2
      rw [e] at hc
      simp at hc
      simp
      omega
  | none =>
    intro hat
    have e : A.free = [] := by simpa using hf
    refine ⟨fun j hj => ?_, h.freeN, ?_⟩
    · have hj' : j ∈ A.free := hj
      rw [e] at hj'; cases hj'
    · have h0 := h.cnt
      show _root_.Go.Proofs.Yteodfbkfpboehaa.cnt (A.ps ++ [some x]) + A.free.length = (A.ps ++ [some x]).length
      rw [cnt_snoc, List.length_append, List.length_singleton]
      omega
theorem le_take {A : ArS α} {n : Nat} (h : A.Le n) (x : α) : (A.take x).Le (n + 1) := by
  unfold ArS.take
  cases hf : A.free.getLast? with
  | some i => exact ⟨by have := h.ps; simp; omega, by have := h.free; simp; omega⟩
  | none => exact ⟨by have := h.ps; simp; omega, by have := h.free; simp; omega⟩
theorem ok_out {A : ArS α} (h : A.Ok) {i : Nat} {x : α} (hi : A.at_ i = some x) : (A.out i).Ok := by
  have hl := at_lt hi
  refine ⟨fun j hj => ?_, ?_, ?_⟩
  · rw [at_out]
    show j < (A.ps.set i none).length ∧ _
    rw [List.length_set]
    rcases List.mem_append.1 hj with hj | hj
    · obtain ⟨q1, q2⟩ := h.freeB j hj
      exact ⟨q1, by split; rfl; exact q2⟩
    · obtain rfl := List.mem_singleton.1 hj
      exact ⟨hl, if_pos rfl⟩
  · refine List.nodup_append.2 ⟨h.freeN, by simp, fun a ha b hb => ?_⟩
    obtain rfl := List.mem_singleton.1 hb
    rintro rfl
    rw [(h.freeB a ha).2] at hi; cases hi
  · have hc := cnt_set A.ps i none hl
    have h0 := h.cnt
    have e : A.ps.getD i none = some x := hi
    rw [e] at hc
    simp at hc
    show _root_.Go.Proofs.Yteodfbkfpboehaa.cnt (A.ps.set i none) + (A.free ++ [i]).length = (A.ps.set i none).length
    rw [List.length_set, List.length_append, List.length_singleton]
    omega
theorem le_out {A : ArS α} {n : Nat} (h : A.Le n) (i : Nat) : (A.out i).Le (n + 1) := ⟨by have := h.ps; simp [ArS.out]; omega, by have := h.free; simp [ArS.out]; omega⟩
theorem ok_put {A : ArS α} (h : A.Ok) {i : Nat} {x : α} (hi : A.at_ i = some x) (y : α) : (A.put i y).Ok := by
  have hl := at_lt hi
  refine ⟨fun j hj => ?_, h.freeN, ?_⟩
  · obtain ⟨q1, q2⟩ := h.freeB j hj
    rw [at_put hl]
    refine ⟨by simpa [ArS.put] using q1, ?_⟩
    rw [if_neg]
    · exact q2
    · rintro rfl
      rw [q2] at hi; cases hi
  · have hc := cnt_set A.ps i (some y) hl
    have h0 := h.cnt
    have e : A.ps.getD i none = some x := hi
    rw [e] at hc
    simp at hc
    show _root_.Go.Proofs.Yteodfbkfpboehaa.cnt (A.ps.set i (some y)) + A.free.length = (A.ps.set i (some y)).length
    rw [List.length_set]
    omega
theorem le_put {A : ArS α} {n : Nat} (h : A.Le n) (i : Nat) (y : α) : (A.put i y).Le n := ⟨by have := h.ps; simp [ArS.put]; omega, h.free⟩
theorem len_cnt {A : ArS α} (h : A.Ok) : A.len = cnt A.ps := by have := h.cnt; unfold ArS.len; omega
end

/-! ### in memory -/
section
variable {α : Type} {K : Kd α}
/-- An arena's memory: its block, its state's, the rows of places and of free ones; in blocks of S, from B on. -/
structure ArM (K : Kd α) (B : Nat) (S : Nat → Prop) (ab st : Nat) (sv fv : Value) (ps : List (Option α)) (fr : List Nat) (w : World) : Prop where
  hab : w.heap[ab]? = some (.cells #[.pointer (some ⟨st, 0, none⟩)] K.tA (0, 0))
  hst : w.heap[st]? = some (.cells #[sv, fv] K.tS (0, 0))
  hsv : w.ownsRow 0 K.tP 2 sv ps.length (fl (plC K) ps)
  hfv : w.ownsRow 0 3 1 fv fr.length (fr.map fun i => Value.int .i64 (i : Nat))
  sA : S ab
  sSt : S st
  sSv : ∀ g, sv.ownBlock = some g → S g
  sFv : ∀ g, fv.ownBlock = some g → S g
  sB : ∀ k, S k → B ≤ k
  hB : B ≤ w.heap.size
variable {B : Nat} {S : Nat → Prop} {ab st : Nat} {sv fv : Value} {ps : List (Option α)} {fr : List Nat} {w w' w1 : World}
theorem ArM.kept (h : ArM K B S ab st sv fv ps fr w) (hz : w.heap.size ≤ w'.heap.size) (hk : ∀ k, k < w.heap.size → S k → w'.heap[k]? = w.heap[k]?) : ArM K B S ab st sv fv ps fr w' :=
  ⟨(hk ab (lt_of_heap h.hab) h.sA).trans h.hab, (hk st (lt_of_heap h.hst) h.sSt).trans h.hst, owns_kept h.hsv (fun g hg => hk g (own_lt7 h.hsv hg) (h.sSv g hg)), owns_kept h.hfv (fun g hg => hk g (own_lt7 h.hfv hg) (h.sFv g hg)),
    h.sA, h.sSt, h.sSv, h.sFv, h.sB, by have := h.hB; omega⟩
theorem ArM.below (h : ArM K B S ab st sv fv ps fr w) (hb : Below w.heap.size w w') : ArM K B S ab st sv fv ps fr w' := h.kept hb.size (fun k hk _ => hb.block k hk)
theorem ArM.mono (h : ArM K B S ab st sv fv ps fr w) {S' : Nat → Prop} (hS : ∀ k, S k → S' k) (hB : ∀ k, S' k → B ≤ k) : ArM K B S' ab st sv fv ps fr w :=
  ⟨h.hab, h.hst, h.hsv, h.hfv, hS _ h.sA, hS _ h.sSt, fun g hg => hS _ (h.sSv g hg), fun g hg => hS _ (h.sFv g hg), hB, h.hB⟩
theorem ArM.cutS (h : ArM K B S ab st sv fv ps fr w) : ArM K B (fun k => S k ∧ k < w.heap.size) ab st sv fv ps fr w :=
  ⟨h.hab, h.hst, h.hsv, h.hfv, ⟨h.sA, lt_of_heap h.hab⟩, ⟨h.sSt, lt_of_heap h.hst⟩, fun g hg => ⟨h.sSv g hg, own_lt7 h.hsv hg⟩, fun g hg => ⟨h.sFv g hg, own_lt7 h.hfv hg⟩, fun k hk => h.sB k hk.1, h.hB⟩
theorem ArM.cells (h : ArM K B S ab st sv fv ps fr w) : w.cell? ⟨ab, 0, none⟩ = some (.pointer (some ⟨st, 0, none⟩)) ∧ w.cell? ⟨st, 0, none⟩ = some sv ∧ w.cell? ⟨st, 1, none⟩ = some fv := by
  refine ⟨?_, ?_, ?_⟩
  · rw [cell_of_row w ab 0 _ _ _ h.hab]; rfl
  · rw [cell_of_row w st 0 _ _ _ h.hst]; rfl
  · rw [cell_of_row w st 1 _ _ _ h.hst]; rfl
theorem ArM.nofreeze (h : ArM K B S ab st sv fv ps fr w) (o : Nat) : w.frozen? ⟨st, o, none⟩ = false := by simp [World.frozen?, h.hst]
theorem ArM.form (h : ArM K B S ab st sv fv ps fr w) (h0 : 0 < ps.length) : ∃ g cap, sv = .slice (some ⟨g, 0, none⟩) ps.length cap ∧ g < w.heap.size ∧ ps.length ≤ cap := by
  obtain ⟨g, cap, rfl, -, hg⟩ := h.hsv.form h0
  refine ⟨g, cap, rfl, hg, ?_⟩
  rcases h.hsv.2 with ⟨hn, _⟩ | ⟨g', cap', cur, hv, _, _, hc, _⟩
  · cases hn
  · injection hv with _ _ e; subst e; exact hc
theorem ArM.place {g cap : Nat} (h : ArM K B S ab st (.slice (some ⟨g, 0, none⟩) ps.length cap) fv ps fr w) {i : Nat} {p : Option α} {b u : Value} (hi : ps[i]? = some p) (hp : plc K p = [b, u]) :
    w.cell? ⟨g, i * 2, none⟩ = some b ∧ w.cell? ⟨g, i * 2 + 1, none⟩ = some u ∧ (∀ o, w.frozen? ⟨g, o, none⟩ = false) := by
  obtain ⟨hlt, hx2⟩ := List.getElem?_eq_some_iff.1 hi
  have hR := (Row.of_owns (C := plC K) h.hsv).1
  obtain ⟨b', off, ha, -, -, -, -, hat, -⟩ := Row.opened hR (by omega)
  obtain ⟨rfl, rfl⟩ : b' = g ∧ off = 0 := by injection ha with e; injection e with e1 e2; exact ⟨e1.symm, e2.symm⟩
  have e : (plC K).c ps[i] = [b, u] := by rw [hx2]; exact hp
  have c0 := hat i hlt 0 b (by rw [e]; rfl)
  have c1 := hat i hlt 1 u (by rw [e]; rfl)
  rw [Nat.zero_add] at c0 c1
  refine ⟨c0, c1, fun o => ?_⟩
  obtain ⟨cur, hc⟩ := own_tag h.hsv (g := b') rfl
  simp [World.frozen?, hc]
theorem fl_put2 (b u : Value) (y : Option α) (hy : plc K y = [b, u]) : ∀ (ps : List (Option α)) (i : Nat), i < ps.length → ((fl (plC K) ps).set (i * 2) b).set (i * 2 + 1) u = fl (plC K) (ps.set i y)
  | [], i, h => by simp at h
  | p :: r, 0, h => by
    rw [List.set_cons_zero, fl_cons, fl_cons]
    show ((plc K p ++ fl (plC K) r).set 0 b).set 1 u = plc K y ++ _
    rw [hy]
    cases p <;> rfl
  | p :: r, i + 1, h => by
    rw [List.set_cons_succ, fl_cons, fl_cons, ← fl_put2 b u y hy r i (by simpa using h)]
    have e1 : (i + 1) * 2 = (i * 2) + 2 := by omega
    rw [e1]
    show ((plc K p ++ fl (plC K) r).set (i * 2 + 2) b).set (i * 2 + 2 + 1) u = plc K p ++ _
    cases p <;> simp [plc]
theorem fl_put1 (u : Value) (y : Option α) (x : α) (hy : plc K y = [.bool true, u]) : ∀ (ps : List (Option α)) (i : Nat), ps[i]? = some (some x) → (fl (plC K) ps).set (i * 2 + 1) u = fl (plC K) (ps.set i y)
  | [], i, h => by simp at h
  | p :: r, 0, h => by
    obtain rfl : p = some x := by simpa using h
    rw [List.set_cons_zero, fl_cons, fl_cons]
    show (plc K (some x) ++ fl (plC K) r).set 1 u = plc K y ++ _
    rw [hy]
    rfl
  | p :: r, i + 1, h => by
    rw [List.set_cons_succ, fl_cons, fl_cons, ← fl_put1 u y x hy r i (by simpa using h)]
    have e1 : (i + 1) * 2 + 1 = (i * 2 + 1) + 2 := by omega
    rw [e1]
    show (plc K p ++ fl (plC K) r).set (i * 2 + 1 + 2) u = plc K p ++ _
    cases p <;> simp [plc]
/-- The row of places turns within. -/
theorem ArM.turn {g cap : Nat} {ps' : List (Option α)} (h : ArM K B S ab st (.slice (some ⟨g, 0, none⟩) ps.length cap) fv ps fr w) (hG : w.grownBy w' (some g)) (ho : w'.ownsRow 0 K.tP 2 (.slice (some ⟨g, 0, none⟩) ps.length cap) ps.length (fl (plC K) ps')) (hl : ps'.length = ps.length) :
    ArM K B S ab st (.slice (some ⟨g, 0, none⟩) ps.length cap) fv ps' fr w' := by
  obtain ⟨cur, hcur⟩ := own_tag h.hsv (g := g) rfl
  refine ⟨farN hG h.hab (fun g' hg' => by cases hg'; exact ⟨_, hcur, fun e => by injection e with _ e _; exact K.nAP e.symm⟩), farN hG h.hst (fun g' hg' => by cases hg'; exact ⟨_, hcur, fun e => by injection e with _ e _; exact K.nSP e.symm⟩), by rw [hl]; exact ho,
    own_far hG h.hfv (fun g' hg' => by cases hg'; exact ⟨_, hcur, fun c e => by injection e with _ e _; exact K.nPI e⟩), h.sA, h.sSt, h.sSv, h.sFv, h.sB, by have := h.hB; have := hG.size; omega⟩
theorem grown_two {g o p : Nat} (u v : Value) : w.grownBy ((w.setCell ⟨g, o, none⟩ u).setCell ⟨g, p, none⟩ v) (some g) :=
  ⟨rfl, rfl, rfl, by simp [World.setCell], fun k h1 hk => by
    rw [Below.heap_setCell _ _ _ _ (fun e => hk (by rw [e])), Below.heap_setCell _ _ _ _ (fun e => hk (by rw [e]))]⟩
/-- Both cells of a place. -/
theorem ArM.put2 {g cap : Nat} (h : ArM K B S ab st (.slice (some ⟨g, 0, none⟩) ps.length cap) fv ps fr w) {i : Nat} (hi : i < ps.length) {y : Option α} {b u : Value} (hy : plc K y = [b, u]) :
    ArM K B S ab st (.slice (some ⟨g, 0, none⟩) ps.length cap) fv (ps.set i y) fr ((w.setCell ⟨g, i * 2, none⟩ b).setCell ⟨g, i * 2 + 1, none⟩ u) := by
  refine h.turn (grown_two _ _) ?_ (by simp)
  rw [← fl_put2 b u y hy ps i hi]
  exact owns_set (owns_set h.hsv b) u
/-- A thing alone. -/
theorem ArM.put1 {g cap : Nat} (h : ArM K B S ab st (.slice (some ⟨g, 0, none⟩) ps.length cap) fv ps fr w) {i : Nat} {x : α} (hi : ps[i]? = some (some x)) (y : α) :
    ArM K B S ab st (.slice (some ⟨g, 0, none⟩) ps.length cap) fv (ps.set i (some y)) fr (w.setCell ⟨g, i * 2 + 1, none⟩ (K.enc y)) := by
  refine h.turn (grown_set _) ?_ (by simp)
  rw [← fl_put1 (K.enc y) (some y) x rfl ps i hi]
  exact owns_set h.hsv _
/-- The row of free ones turns, and the state with it. -/
theorem ArM.refree (h : ArM K B S ab st sv fv ps fr w) {fv' : Value} {fr' : List Nat} (hG : w.grownBy w1 fv.ownBlock) (ho : w1.ownsRow 0 3 1 fv' fr'.length (fr'.map fun i => Value.int .i64 (i : Nat))) (hS : ∀ g, fv'.ownBlock = some g → S g) :
    ArM K B S ab st sv fv' ps fr' (w1.setCell ⟨st, 1, none⟩ fv') := by
  have ht1 : ∀ g', fv.ownBlock = some g' → ∃ cur, w.heap[g']? = some (.cells cur 3 (0, 0)) := fun g' hg' => own_tag h.hfv hg'
  have hst1 := farN hG h.hst (fun g' hg' => by obtain ⟨cur, hcur⟩ := ht1 g' hg'; exact ⟨_, hcur, fun e => by injection e with _ e _; exact K.nSI e.symm⟩)
  have hab1 := farN hG h.hab (fun g' hg' => by obtain ⟨cur, hcur⟩ := ht1 g' hg'; exact ⟨_, hcur, fun e => by injection e with _ e _; exact K.nAI e.symm⟩)
  have hG2 := grown_set (w := w1) (g := st) (o := 1) fv'
  have hs1 : ∀ e : TypeId, e ≠ K.tS → ∀ g', some st = some g' → ∃ o', w1.heap[g']? = some o' ∧ ∀ c, o' ≠ .cells c e (0, 0) := fun e he g' hg' => by
    cases hg'
    exact ⟨_, hst1, fun c hc => by injection hc with _ hc _; exact he hc.symm⟩
  refine ⟨farN hG2 hab1 (fun g' hg' => by cases hg'; exact ⟨_, hst1, fun e => by injection e with _ e _; exact K.nAS e.symm⟩), ?_, own_far hG2 (own_far hG h.hsv (fun g' hg' => by obtain ⟨cur, hcur⟩ := ht1 g' hg'; exact ⟨_, hcur, fun c e => by injection e with _ e _; exact K.nPI e.symm⟩)) (hs1 _ K.nSP.symm), own_far hG2 ho (hs1 _ K.nSI.symm),
    h.sA, h.sSt, h.sSv, hS, h.sB, by have := h.hB; have := hG.size; have := hG2.size; omega⟩
  rw [heap_set fv' hst1]; rfl
/-- The row of places grows, and the state with it. -/
theorem ArM.resets (h : ArM K B S ab st sv fv ps fr w) {sv' : Value} {ps' : List (Option α)} (hG : w.grownBy w1 sv.ownBlock) (ho : w1.ownsRow 0 K.tP 2 sv' ps'.length (fl (plC K) ps')) (hS : ∀ g, sv'.ownBlock = some g → S g) :
    ArM K B S ab st sv' fv ps' fr (w1.setCell ⟨st, 0, none⟩ sv') := by
  have ht1 : ∀ g', sv.ownBlock = some g' → ∃ cur, w.heap[g']? = some (.cells cur K.tP (0, 0)) := fun g' hg' => own_tag h.hsv hg'
  have hst1 := farN hG h.hst (fun g' hg' => by obtain ⟨cur, hcur⟩ := ht1 g' hg'; exact ⟨_, hcur, fun e => by injection e with _ e _; exact K.nSP e.symm⟩)
  have hab1 := farN hG h.hab (fun g' hg' => by obtain ⟨cur, hcur⟩ := ht1 g' hg'; exact ⟨_, hcur, fun e => by injection e with _ e _; exact K.nAP e.symm⟩)
  have hG2 := grown_set (w := w1) (g := st) (o := 0) sv'
  have hs1 : ∀ e : TypeId, e ≠ K.tS → ∀ g', some st = some g' → ∃ o', w1.heap[g']? = some o' ∧ ∀ c, o' ≠ .cells c e (0, 0) := fun e he g' hg' => by
    cases hg'
    exact ⟨_, hst1, fun c hc => by injection hc with _ hc _; exact he hc.symm⟩
  refine ⟨farN hG2 hab1 (fun g' hg' => by cases hg'; exact ⟨_, hst1, fun e => by injection e with _ e _; exact K.nAS e.symm⟩), ?_, own_far hG2 ho (hs1 _ K.nSP.symm), own_far hG2 (own_far hG h.hfv (fun g' hg' => by obtain ⟨cur, hcur⟩ := ht1 g' hg'; exact ⟨_, hcur, fun c e => by injection e with _ e _; exact K.nPI e⟩)) (hs1 _ K.nSI.symm),
    h.sA, h.sSt, hS, h.sFv, h.sB, by have := h.hB; have := hG.size; have := hG2.size; omega⟩
  rw [heap_set sv' hst1]; rfl
end
end Go.Proofs.Yteodfbkfpboehaa

/- TA: an arena of things that lie in m cells each, in memory -/
namespace Go.Proofs.Yteodfbkfpboehaa
open Go.RowKit
set_option linter.unusedVariables false

/-- How things of m cells lie: the types of an arena, its state, a place, a thing; a thing's cells, the zero one's. -/
structure KT (α : Type) where
  tA : TypeId
  tS : TypeId
  tP : TypeId
  m : Nat
  c : α → List Value
  zc : List Value
  len : ∀ x, (c x).length = m
  lenZ : zc.length = m
  one : ∀ x, ∀ u ∈ c x, u.oneCell' = true
  oneZ : ∀ u ∈ zc, u.oneCell' = true
  nAS : tA ≠ tS
  nAP : tA ≠ tP
  nSP : tS ≠ tP
  nAI : tA ≠ 3
  nSI : tS ≠ 3
  nPI : tP ≠ 3
def KT.v {α : Type} (K : KT α) (x : α) : Value := .agg (K.c x).toArray
def KT.z {α : Type} (K : KT α) : Value := .agg K.zc.toArray
def plT {α : Type} (K : KT α) : Option α → List Value
  | none => .bool false :: K.zc
  | some x => .bool true :: K.c x
theorem plT_len {α : Type} (K : KT α) (x : Option α) : (plT K x).length = K.m + 1 := by cases x <;> simp [plT, K.len, K.lenZ]
theorem plT_one {α : Type} (K : KT α) (x : Option α) : ∀ u ∈ plT K x, u.oneCell' = true := by
  intro u hu
  cases x with
  | none =>
    rcases List.mem_cons.1 hu with rfl | hu
    · rfl
    · exact K.oneZ u hu
  | some x =>
    rcases List.mem_cons.1 hu with rfl | hu
    · rfl
    · exact K.one x u hu
def plTC {α : Type} (K : KT α) : Cel (Option α) := ⟨plT K, K.m + 1, plT_len K, plT_one K, Nat.succ_pos _⟩

/-! ### cells in the midst of a row, set -/
def sets (L : List Value) : Nat → List Value → List Value
  | _, [] => L
  | o, v :: r => sets (L.set o v) (o + 1) r
theorem sets_len : ∀ (vs : List Value) (L : List Value) (o : Nat), (sets L o vs).length = L.length
  | [], L, o => rfl
  | v :: r, L, o => by rw [sets, sets_len r]; simp
theorem sets_mid : ∀ (vs B A C : List Value), vs.length = B.length → sets (A ++ (B ++ C)) A.length vs = A ++ (vs ++ C)
  | [], [], A, C, _ => rfl
  | [], _ :: _, A, C, h => by simp at h
  | _ :: _, [], A, C, h => by simp at h
  | v :: r, b :: B, A, C, h => by
    have e : (A ++ (b :: B ++ C)).set A.length v = (A ++ [v]) ++ (B ++ C) := by
      rw [List.set_append_right _ _ (Nat.le_refl _), Nat.sub_self]; simp
    have e2 : A.length + 1 = (A ++ [v]).length := by simp
    rw [sets, e, e2, sets_mid r B (A ++ [v]) C (by simpa using h)]
    simp
theorem grown_sets (g : Nat) : ∀ (vs : List Value) (o : Nat) (w : World), w.grownBy (w.setCells g o vs) (some g)
  | [], o, w => grown_refl w _
  | v :: r, o, w => by
    have h1 := grown_set (w := w) (g := g) (o := o) v
    have h2 := grown_sets g r (o + 1) (w.setCell ⟨g, o, none⟩ v)
    exact ⟨h2.os.trans h1.os, h2.tape.trans h1.tape, h2.output.trans h1.output, Nat.le_trans h1.size h2.size, fun k hk hn => (h2.block k (Nat.lt_of_lt_of_le hk h1.size) hn).trans (h1.block k hk hn)⟩
theorem owns_sets {base : Nat} {e : TypeId} {size : Nat} {g cap n : Nat} : ∀ (vs : List Value) (o : Nat) (xs : List Value) (w : World), w.ownsRow base e size (.slice (some ⟨g, 0, none⟩) n cap) n xs →
    (w.setCells g o vs).ownsRow base e size (.slice (some ⟨g, 0, none⟩) n cap) n (sets xs o vs)
  | [], o, xs, w, h => h
  | v :: r, o, xs, w, h => owns_sets r (o + 1) _ _ (owns_set h v)

section
variable {α : Type} {K : KT α}
theorem fl_setT (y : Option α) (ps : List (Option α)) (i : Nat) (hi : i < ps.length) : sets (fl (plTC K) ps) (i * (K.m + 1)) (plT K y) = fl (plTC K) (ps.set i y) := by
  have e : ps = ps.take i ++ ([ps[i]] ++ ps.drop (i + 1)) := by
    rw [List.singleton_append, ← List.drop_eq_getElem_cons hi, List.take_append_drop]
  have e2 : ps.set i y = ps.take i ++ ([y] ++ ps.drop (i + 1)) := by
    rw [List.set_eq_take_append_cons_drop, if_pos hi]; rfl
  have e3 : fl (plTC K) ps = fl (plTC K) (ps.take i) ++ (plT K ps[i] ++ fl (plTC K) (ps.drop (i + 1))) := by
    rw [show plT K ps[i] = fl (plTC K) [ps[i]] from (fl_one (plTC K) ps[i]).symm, ← fl_app, ← fl_app, ← e]
  have hl : (fl (plTC K) (ps.take i)).length = i * (K.m + 1) := by
    rw [fl_len, List.length_take, Nat.min_eq_left (by omega)]; rfl
  rw [e3, ← hl, sets_mid _ _ _ _ (by rw [plT_len, plT_len]), e2, fl_app, fl_app, fl_one]
  rfl

/-- An arena's memory: its block, its state's, the rows of places and of free ones; in blocks of S. -/
structure AtM (K : KT α) (S : Nat → Prop) (ab st : Nat) (sv fv : Value) (ps : List (Option α)) (fr : List Nat) (w : World) : Prop where
  hab : w.heap[ab]? = some (.cells #[.pointer (some ⟨st, 0, none⟩)] K.tA (0, 0))
  hst : w.heap[st]? = some (.cells #[sv, fv] K.tS (0, 0))
  hsv : w.ownsRow 0 K.tP (K.m + 1) sv ps.length (fl (plTC K) ps)
  hfv : w.ownsRow 0 3 1 fv fr.length (fr.map fun i => Value.int .i64 (i : Nat))
  sA : S ab
  sSt : S st
  sSv : ∀ g, sv.ownBlock = some g → S g
  sFv : ∀ g, fv.ownBlock = some g → S g
variable {S : Nat → Prop} {ab st : Nat} {sv fv : Value} {ps : List (Option α)} {fr : List Nat} {w w' w1 : World}
theorem AtM.kept (h : AtM K S ab st sv fv ps fr w) (hk : ∀ k, k < w.heap.size → S k → w'.heap[k]? = w.heap[k]?) : AtM K S ab st sv fv ps fr w' :=
  ⟨(hk ab (lt_of_heap h.hab) h.sA).trans h.hab, (hk st (lt_of_heap h.hst) h.sSt).trans h.hst, owns_kept h.hsv (fun g hg => hk g (own_lt7 h.hsv hg) (h.sSv g hg)), owns_kept h.hfv (fun g hg => hk g (own_lt7 h.hfv hg) (h.sFv g hg)),
    h.sA, h.sSt, h.sSv, h.sFv⟩
theorem AtM.below (h : AtM K S ab st sv fv ps fr w) (hb : Below w.heap.size w w') : AtM K S ab st sv fv ps fr w' := h.kept (fun k hk _ => hb.block k hk)
theorem AtM.mono (h : AtM K S ab st sv fv ps fr w) {S' : Nat → Prop} (hS : ∀ k, S k → S' k) : AtM K S' ab st sv fv ps fr w :=
  ⟨h.hab, h.hst, h.hsv, h.hfv, hS _ h.sA, hS _ h.sSt, fun g hg => hS _ (h.sSv g hg), fun g hg => hS _ (h.sFv g hg)⟩
theorem AtM.cutS (h : AtM K S ab st sv fv ps fr w) : AtM K (fun k => S k ∧ k < w.heap.size) ab st sv fv ps fr w :=
  ⟨h.hab, h.hst, h.hsv, h.hfv, ⟨h.sA, lt_of_heap h.hab⟩, ⟨h.sSt, lt_of_heap h.hst⟩, fun g hg => ⟨h.sSv g hg, own_lt7 h.hsv hg⟩, fun g hg => ⟨h.sFv g hg, own_lt7 h.hfv hg⟩⟩
theorem AtM.cells (h : AtM K S ab st sv fv ps fr w) : w.cell? ⟨ab, 0, none⟩ = some (.pointer (some ⟨st, 0, none⟩)) ∧ w.cell? ⟨st, 0, none⟩ = some sv ∧ w.cell? ⟨st, 1, none⟩ = some fv := by
  refine ⟨?_, ?_, ?_⟩
  · rw [cell_of_row w ab 0 _ _ _ h.hab]; rfl
  · rw [cell_of_row w st 0 _ _ _ h.hst]; rfl
  · rw [cell_of_row w st 1 _ _ _ h.hst]; rfl
theorem AtM.nofreeze (h : AtM K S ab st sv fv ps fr w) (o : Nat) : w.frozen? ⟨st, o, none⟩ = false := by simp [World.frozen?, h.hst]
theorem AtM.form (h : AtM K S ab st sv fv ps fr w) (h0 : 0 < ps.length) : ∃ g cap, sv = .slice (some ⟨g, 0, none⟩) ps.length cap ∧ g < w.heap.size ∧ ps.length ≤ cap := by
  obtain ⟨g, cap, rfl, -, hg⟩ := h.hsv.form h0
  refine ⟨g, cap, rfl, hg, ?_⟩
  rcases h.hsv.2 with ⟨hn, _⟩ | ⟨g', cap', cur, hv, _, _, hc, _⟩
  · cases hn
  · injection hv with _ _ e; subst e; exact hc
/-- The cells of a place: there, and none of them marked. -/
theorem AtM.place {g cap : Nat} (h : AtM K S ab st (.slice (some ⟨g, 0, none⟩) ps.length cap) fv ps fr w) {i : Nat} {p : Option α} (hi : ps[i]? = some p) :
    w.rangeAt g (i * (K.m + 1)) (plT K p) ∧ (∀ o, w.frozen? ⟨g, o, none⟩ = false) := by
  obtain ⟨hlt, hx2⟩ := List.getElem?_eq_some_iff.1 hi
  have hR := (Row.of_owns (C := plTC K) h.hsv).1
  obtain ⟨b', off, ha, -, -, -, -, hat, -⟩ := Row.opened hR (by omega)
  obtain ⟨rfl, rfl⟩ : b' = g ∧ off = 0 := by injection ha with e; injection e with e1 e2; exact ⟨e1.symm, e2.symm⟩
  refine ⟨fun j u hu => ?_, fun o => ?_⟩
  · have := hat i hlt j u (by rw [hx2]; exact hu)
    rw [Nat.zero_add] at this
    exact this
  · obtain ⟨cur, hc⟩ := own_tag h.hsv (g := b') rfl
    simp [World.frozen?, hc]
theorem AtM.thing {g cap : Nat} (h : AtM K S ab st (.slice (some ⟨g, 0, none⟩) ps.length cap) fv ps fr w) {i : Nat} {x : α} (hi : ps[i]? = some (some x)) :
    w.rangeAt g (i * (K.m + 1) + 1) (K.c x) := fun j u hu => by
  have := (h.place hi).1 (j + 1) u (by simpa [plT] using hu)
  rwa [show i * (K.m + 1) + (j + 1) = i * (K.m + 1) + 1 + j by omega] at this
theorem AtM.there {g cap : Nat} (h : AtM K S ab st (.slice (some ⟨g, 0, none⟩) ps.length cap) fv ps fr w) {i : Nat} {p : Option α} (hi : ps[i]? = some p) : w.there g (i * (K.m + 1)) (K.m + 1) := fun j hj =>
  ⟨(h.place hi).1.isSome j (by rw [plT_len]; exact hj), (h.place hi).2 _⟩
/-- The row of places turns within. -/
theorem AtM.turn {g cap : Nat} {ps' : List (Option α)} (h : AtM K S ab st (.slice (some ⟨g, 0, none⟩) ps.length cap) fv ps fr w) (hG : w.grownBy w' (some g)) (ho : w'.ownsRow 0 K.tP (K.m + 1) (.slice (some ⟨g, 0, none⟩) ps.length cap) ps.length (fl (plTC K) ps')) (hl : ps'.length = ps.length) :
    AtM K S ab st (.slice (some ⟨g, 0, none⟩) ps.length cap) fv ps' fr w' := by
  obtain ⟨cur, hcur⟩ := own_tag h.hsv (g := g) rfl
  exact ⟨farN hG h.hab (fun g' hg' => by cases hg'; exact ⟨_, hcur, fun e => by injection e with _ e _; exact K.nAP e.symm⟩), farN hG h.hst (fun g' hg' => by cases hg'; exact ⟨_, hcur, fun e => by injection e with _ e _; exact K.nSP e.symm⟩), by rw [hl]; exact ho,
    own_far hG h.hfv (fun g' hg' => by cases hg'; exact ⟨_, hcur, fun c e => by injection e with _ e _; exact K.nPI e⟩), h.sA, h.sSt, h.sSv, h.sFv⟩
/-- All cells of a place. -/
theorem AtM.putA {g cap : Nat} (h : AtM K S ab st (.slice (some ⟨g, 0, none⟩) ps.length cap) fv ps fr w) {i : Nat} (hi : i < ps.length) (y : Option α) :
    AtM K S ab st (.slice (some ⟨g, 0, none⟩) ps.length cap) fv (ps.set i y) fr (w.setCells g (i * (K.m + 1)) (plT K y)) := by
  refine h.turn (grown_sets g _ _ _) ?_ (by simp)
  rw [← fl_setT y ps i hi]
  exact owns_sets _ _ _ _ h.hsv
/-- The row of free ones turns, and the state with it. -/
theorem AtM.refree (h : AtM K S ab st sv fv ps fr w) {fv' : Value} {fr' : List Nat} (hG : w.grownBy w1 fv.ownBlock) (ho : w1.ownsRow 0 3 1 fv' fr'.length (fr'.map fun i => Value.int .i64 (i : Nat))) (hS : ∀ g, fv'.ownBlock = some g → S g) :
    AtM K S ab st sv fv' ps fr' (w1.setCell ⟨st, 1, none⟩ fv') := by
  have ht1 : ∀ g', fv.ownBlock = some g' → ∃ cur, w.heap[g']? = some (.cells cur 3 (0, 0)) := fun g' hg' => own_tag h.hfv hg'
  have hst1 := farN hG h.hst (fun g' hg' => by obtain ⟨cur, hcur⟩ := ht1 g' hg'; exact ⟨_, hcur, fun e => by injection e with _ e _; exact K.nSI e.symm⟩)
  have hab1 := farN hG h.hab (fun g' hg' => by obtain ⟨cur, hcur⟩ := ht1 g' hg'; exact ⟨_, hcur, fun e => by injection e with _ e _; exact K.nAI e.symm⟩)
  have hG2 := grown_set (w := w1) (g := st) (o := 1) fv'
  have hs1 : ∀ e : TypeId, e ≠ K.tS → ∀ g', some st = some g' → ∃ o', w1.heap[g']? = some o' ∧ ∀ c, o' ≠ .cells c e (0, 0) := fun e he g' hg' => by
    cases hg'
    exact ⟨_, hst1, fun c hc => by injection hc with _ hc _; exact he hc.symm⟩
  refine ⟨farN hG2 hab1 (fun g' hg' => by cases hg'; exact ⟨_, hst1, fun e => by injection e with _ e _; exact K.nAS e.symm⟩), ?_, own_far hG2 (own_far hG h.hsv (fun g' hg' => by obtain ⟨cur, hcur⟩ := ht1 g' hg'; exact ⟨_, hcur, fun c e => by injection e with _ e _; first | exact K.nPI e | exact K.nPI e.symm⟩)) (hs1 _ K.nSP.symm), own_far hG2 ho (hs1 _ K.nSI.symm),
    h.sA, h.sSt, h.sSv, hS⟩
  rw [heap_set fv' hst1]; rfl
/-- The row of places grows, and the state with it. -/
theorem AtM.resets (h : AtM K S ab st sv fv ps fr w) {sv' : Value} {ps' : List (Option α)} (hG : w.grownBy w1 sv.ownBlock) (ho : w1.ownsRow 0 K.tP (K.m + 1) sv' ps'.length (fl (plTC K) ps')) (hS : ∀ g, sv'.ownBlock = some g → S g) :
    AtM K S ab st sv' fv ps' fr (w1.setCell ⟨st, 0, none⟩ sv') := by
  have ht1 : ∀ g', sv.ownBlock = some g' → ∃ cur, w.heap[g']? = some (.cells cur K.tP (0, 0)) := fun g' hg' => own_tag h.hsv hg'
  have hst1 := farN hG h.hst (fun g' hg' => by obtain ⟨cur, hcur⟩ := ht1 g' hg'; exact ⟨_, hcur, fun e => by injection e with _ e _; exact K.nSP e.symm⟩)
  have hab1 := farN hG h.hab (fun g' hg' => by obtain ⟨cur, hcur⟩ := ht1 g' hg'; exact ⟨_, hcur, fun e => by injection e with _ e _; exact K.nAP e.symm⟩)
  have hG2 := grown_set (w := w1) (g := st) (o := 0) sv'
  have hs1 : ∀ e : TypeId, e ≠ K.tS → ∀ g', some st = some g' → ∃ o', w1.heap[g']? = some o' ∧ ∀ c, o' ≠ .cells c e (0, 0) := fun e he g' hg' => by
    cases hg'
    exact ⟨_, hst1, fun c hc => by injection hc with _ hc _; exact he hc.symm⟩
  refine ⟨farN hG2 hab1 (fun g' hg' => by cases hg'; exact ⟨_, hst1, fun e => by injection e with _ e _; exact K.nAS e.symm⟩), ?_, own_far hG2 ho (hs1 _ K.nSP.symm), own_far hG2 (own_far hG h.hfv (fun g' hg' => by obtain ⟨cur, hcur⟩ := ht1 g' hg'; exact ⟨_, hcur, fun c e => by injection e with _ e _; first | exact K.nPI e | exact K.nPI e.symm⟩)) (hs1 _ K.nSI.symm),
    h.sA, h.sSt, hS, h.sFv⟩
  rw [heap_set sv' hst1]; rfl
end

/-! ### operations on a whole row of cells, whatever guards them -/
/-- A part of a row, loaded whole. -/
theorem wpList_load_midw {P : Program} {ops : Array Oper} {rest : List Oper} {op : Oper} {a : Act} {w : World} {Q : Exit → Act → World → Prop} (hw : Region.wanted op (yielded ops a.tmps) = true) (ty : TypeId) (x : Operand) (ho : op.op = .load ty x)
    (b o : Nat) (hx : a.eval x = .pointer (some ⟨b, o, none⟩)) (cs : List Value) (d : TypeDesc) (hc : w.rangeAt b o cs)
    (hu : P.underlying ty = some d) (hd : d.isRow = true) (hi : (P.info? ty).map (·.size) = some cs.length)
    (h : wpList P ops Q rest (a.put op.dst (.agg cs.toArray)) w) : wpList P ops Q (op :: rest) a w :=
  wpList_step fun K hK => by
    rw [if_pos hw]
    exact wp_load_mid ty x ho b o hx cs d hc hu hd hi (hK _ _ h)
/-- A variable of zero cells is made. -/
theorem wpList_alloc_row {P : Program} {ops : Array Oper} {rest : List Oper} {op : Oper} {a : Act} {w : World} {Q : Exit → Act → World → Prop} (hg : op.guard = none) (ty : TypeId) (ho : op.op = .alloc ty) (zc : List Value)
    (hi : (P.info? ty).bind (·.zero) = some (.agg zc.toArray)) (N : Nat) (hN : w.heap.size = N)
    (h : wpList P ops Q rest (a.put op.dst (.pointer (some ⟨N, 0, none⟩))) (w.alloc (.cells zc.toArray ty))) : wpList P ops Q (op :: rest) a w := by
  subst hN
  refine Great.wpList_allocTo hg op.dst rfl (.pointer (some ⟨w.heap.size, 0, none⟩)) (.cells zc.toArray ty) ?_ h
  cases hq : P.info? ty with
  | none => simp [hq] at hi
  | some i =>
    simp [hq] at hi
    simp [execOp, ho, Instr.alloc, zeroValue, typeInfo, hq, hi, newVar, newRow, Value.cells]
/-! a place is built of a flag and a thing's cells -/
theorem fold_sets (off : Nat) : ∀ (L : List Value) (k : Nat) (A : Array Value), ((L.zipIdx k).foldl (fun cs x => cs.setIfInBounds (off + x.2) x.1) A).toList = sets A.toList (off + k) L
  | [], k, A => rfl
  | v :: r, k, A => by
    rw [List.zipIdx_cons, List.foldl_cons, fold_sets off r (k + 1), sets]
    simp [Nat.add_assoc]
theorem fold_setsA (off : Nat) (c A : Array Value) : (c.zipIdx.foldl (fun cs (x : Value × Nat) => cs.setIfInBounds (off + x.2) x.1) A).toList = sets A.toList off c.toList := by
  rw [← Array.foldl_toList, Array.toList_zipIdx, fold_sets off c.toList 0 A, Nat.add_zero]
theorem built_two {P : Program} (t : TypeId) (it : TypeInfo) (hi : P.info? t = some it) (fields : Array Field) (hu : P.underlying t = some (.struct fields)) (b0 : Value) (zc : List Value) (hz : it.zero = some (.agg (b0 :: zc).toArray))
    (m : Nat) (hp : fields.toList.mapM (fun f => (P.info? f.type).map fun i => (f.offset, i.size)) = some [(0, 1), (1, m)]) (hm : zc.length = m) (b : Bool) (cx : List Value) (hc : cx.length = m) :
    P.built t [(0, .bool b), (1, .agg cx.toArray)] = some (.bool b :: cx).toArray := by
  unfold Program.built
  simp only [hi, hu, hz, hp]
  have e1 : (Value.agg (b0 :: zc).toArray).cells = (b0 :: zc).toArray := rfl
  have e2 : (Value.bool b).cells = #[.bool b] := rfl
  have e3 : (Value.agg cx.toArray).cells = cx.toArray := rfl
  have h0 : ([(0, 1), (1, m)] : List (Nat × Nat)).toArray[0]? = some (0, 1) := rfl
  have h1 : ([(0, 1), (1, m)] : List (Nat × Nat)).toArray[1]? = some (1, m) := rfl
  have f0 : (#[Value.bool b].zipIdx.foldl (fun cs (x : Value × Nat) => cs.setIfInBounds (0 + x.2) x.1) (b0 :: zc).toArray) = (.bool b :: zc).toArray := by
    apply Array.toList_inj.1
    rw [fold_setsA]
    rfl
  have f1 : (cx.toArray.zipIdx.foldl (fun cs (x : Value × Nat) => cs.setIfInBounds (1 + x.2) x.1) (.bool b :: zc).toArray) = (.bool b :: cx).toArray := by
    apply Array.toList_inj.1
    rw [fold_setsA]
    have := sets_mid cx zc [.bool b] [] (by omega)
    simpa using this
  rw [e1, Instr.fill, h0]
  simp only [e2]
  rw [if_neg (by simp), f0, Instr.fill, h1]
  simp only [e3]
  rw [if_neg (by simp [hm, hc]; omega), f1, Instr.fill]
/-- A struct is built: its parts said as a list. -/
theorem wpList_buildL {P : Program} {ops : Array Oper} {rest : List Oper} {o : Oper} {a : Act} {w : World} {Q : Exit → Act → World → Prop} (hg : o.guard = none) (t : TypeId) (parts : Array (Nat × Operand)) (ho : o.op = .build t parts)
    (d : Option Tmp) (hd : o.dst = d) (vs : List (Nat × Value)) (hv : parts.toList.map (fun (i, x) => (i, a.eval x)) = vs) (cells : Array Value) (hf : P.built t vs = some cells)
    (h : wpList P ops Q rest (a.put d (.agg cells)) w) : wpList P ops Q (o :: rest) a w :=
  wpList_buildTo hg t parts ho d hd cells (by rw [Array.toList_map, hv]; exact hf) h
theorem wpList_buildSliceL {P : Program} {ops : Array Oper} {rest : List Oper} {o : Oper} {a : Act} {w : World} {Q : Exit → Act → World → Prop} (hg : o.guard = none) (t e : TypeId) (len : Nat) (parts : Array (Nat × Operand)) (ho : o.op = .buildSlice t len parts)
    (N : Nat) (hN : w.heap.size = N) (dst : Option Tmp) (hdst : o.dst = dst) (hu : P.underlying t = some (.slice e)) (vs : List (Nat × Value)) (hv : parts.toList.map (fun (i, x) => (i, a.eval x)) = vs) (cells : Array Value) (hf : P.builtSlice e len vs = some cells)
    (h : wpList P ops Q rest (a.put dst (.slice (some ⟨N, 0, none⟩) len len)) (w.alloc (.cells cells e))) : wpList P ops Q (o :: rest) a w :=
  Great.wpList_buildSliceTo hg t e len parts ho N hN dst hdst hu cells (by rw [Array.toList_map, hv]; exact hf) h
theorem x_buildL {P : Program} {o : Oper} {a : Act} {w : World} (t : TypeId) (parts : Array (Nat × Operand)) (ho : o.op = .build t parts) (vs : List (Nat × Value)) (hv : parts.toList.map (fun (i, x) => (i, a.eval x)) = vs) (cells : Array Value) (hf : P.built t vs = some cells) :
    (execOp a.eval o).run P w = .ok (.value (.agg cells)) w := by
  have e : (parts.map fun (i, x) => (i, a.eval x)).toList = vs := by rw [Array.toList_map, hv]
  unfold execOp
  simp only [ho, Sem.run_bind, run_build w t _ cells (by rw [e]; exact hf), Result.andThen_ok, Sem.run_pure]
/-- The rest of a walk asks of a world only this. -/
theorem with_worldT {P : Program} {c : Code} {Q : Exit → Act → World → Prop} {a : Act} {W0 : World} (F : World → Prop) (h0 : F W0) (h : ∀ W, F W → c.wp P Q a W) : c.wp P Q a W0 := h _ h0
theorem with_worldTL {P : Program} {ops : Array Oper} {rest : List Oper} {Q : Exit → Act → World → Prop} {a : Act} {W0 : World} (F : World → Prop) (h0 : F W0) (h : ∀ W, F W → wpList P ops Q rest a W) : wpList P ops Q rest a W0 := h _ h0
end Go.Proofs.Yteodfbkfpboehaa

/- OA: rows of 32 cells by value; a chunk as plain data; whether a rune may be; how many runes a chunk has -/
namespace Go.Proofs.Yteodfbkfpboehaa
open Go.RowKit
set_option linter.unusedVariables false

/-- The cells of a row of int32. -/
def row (xs : List Int) : Array Value := (xs.map (Value.int .i32)).toArray
theorem row_size (xs : List Int) : (row xs).size = xs.length := by simp [row]
theorem row_get (xs : List Int) (j : Nat) (h : j < xs.length) : (row xs)[j]? = some (.int .i32 (xs.getD j 0)) := by simp [row, List.getD, h]
theorem row_one (xs : List Int) : (row xs).all (·.oneCell') = true := by
  rw [Array.all_eq_true_iff_forall_mem]
  intro v hv
  simp [row] at hv
  obtain ⟨x, -, rfl⟩ := hv
  rfl
/-- Block b holds these cells, as a variable of type t. -/
def RowAt (b : Nat) (t : TypeId) (xs : List Int) (w : World) : Prop := w.heap[b]? = some (.cells (row xs) t (0, 0))
theorem RowAt.cell {b j : Nat} {t : TypeId} {xs : List Int} {w : World} (h : RowAt b t xs w) (hj : j < xs.length) : w.cell? ⟨b, j, none⟩ = some (.int .i32 (xs.getD j 0)) := by
  rw [cell_of_row w b j _ t (0, 0) h, row_get xs j hj]
theorem rowAt_new (w : World) (t : TypeId) (xs : List Int) : RowAt w.heap.size t xs (w.alloc (.cells (row xs) t)) := heap_alloc_new w _
theorem RowAt.alloc {b : Nat} {t : TypeId} {xs : List Int} {w : World} (h : RowAt b t xs w) (o : Obj) : RowAt b t xs (w.alloc o) := by
  have hlt := (Array.getElem?_eq_some_iff.1 h).1
  show (w.alloc o).heap[b]? = _
  exact (heap_alloc_old w o hlt).trans h
theorem RowAt.below {b : Nat} {t : TypeId} {xs : List Int} {w w' : World} (h : RowAt b t xs w) (hb : Below w.heap.size w w') : RowAt b t xs w' :=
  (hb.block b (Array.getElem?_eq_some_iff.1 h).1).trans h

/-- May a number be a rune? -/
def code (r : Int) : Bool := decide (0 ≤ r) && decide (r ≤ 1114111) && !(decide (55296 ≤ r) && decide (r ≤ 57343))
theorem code_of {r : Int} {a b c d : Bool} (h1 : decide (0 ≤ r) = a) (h2 : decide (r ≤ 1114111) = b) (h3 : decide (55296 ≤ r) = c) (h4 : decide (r ≤ 57343) = d) : code r = (a && b && !(c && d)) := by rw [code, h1, h2, h3, h4]
/-- The slots of a chunk of these runes, and its value. -/
def slots (l : List Int) : List Int := l.map (· + 1) ++ List.replicate (32 - l.length) 0
def cvO (l : List Int) : Value := .agg (row (slots l))
def Chunky (l : List Int) : Prop := l.length ≤ 32 ∧ ∀ r ∈ l, 0 ≤ r ∧ r ≤ 1114111
theorem slots_len {l : List Int} (h : l.length ≤ 32) : (slots l).length = 32 := by simp [slots]; omega
theorem slots_in {l : List Int} {j : Nat} (h : j < l.length) : (slots l).getD j 0 = l.getD j 0 + 1 := by
  simp [slots, List.getD, List.getElem?_append_left, h]
theorem slots_out {l : List Int} {j : Nat} (h : l.length ≤ j) : (slots l).getD j 0 = 0 := by
  simp only [slots, List.getD]
  rw [List.getElem?_append_right (by simpa using h), List.getElem?_replicate]
  split <;> rfl
end Go.Proofs.Yteodfbkfpboehaa

/- OB: how many newlines are ahead of a place, and in all; the rune at a place -/
namespace Go.Proofs.Yteodfbkfpboehaa
open Go.RowKit
set_option linter.unusedVariables false

/-- How many newlines a list has. -/
def nlO (l : List Int) : Nat := (l.filter (· == 10)).length
theorem nlO_le (l : List Int) : nlO l ≤ l.length := List.length_filter_le _ _
theorem nl_app (a b : List Int) : nlO (a ++ b) = nlO a + nlO b := by simp [nlO]
theorem nl_yes {l : List Int} {k : Nat} (h : ((slots l).getD k 0 == 11) = true) : nlO (l.take (k + 1)) = nlO (l.take k) + 1 := by
  rw [beq_iff_eq] at h
  by_cases hk : k < l.length
  · rw [slots_in hk] at h
    have h10 : l.getD k 0 = 10 := by omega
    rw [take_snoc l k hk, h10, nl_app]
    rfl
  · rw [slots_out (by omega)] at h
    cases h
theorem nl_no {l : List Int} {k : Nat} (h : ((slots l).getD k 0 == 11) = false) : nlO (l.take (k + 1)) = nlO (l.take k) := by
  rw [beq_eq_false_iff_ne] at h
  by_cases hk : k < l.length
  · rw [slots_in hk] at h
    have h10 : (l.getD k 0 == 10) = false := by rw [beq_eq_false_iff_ne]; omega
    rw [take_snoc l k hk, nl_app]
    have : nlO [l.getD k 0] = 0 := by
      show (List.filter (· == 10) [l.getD k 0]).length = 0
      rw [List.filter_cons, h10]
      rfl
    omega
  · rw [List.take_of_length_le (by omega), List.take_of_length_le (by omega)]
theorem nl_take_le (l : List Int) (k : Nat) : nlO (l.take k) ≤ k := Nat.le_trans (nlO_le _) (List.length_take_le _ _)
theorem nl_all {l : List Int} {k : Nat} (h : l.length ≤ k) : nlO (l.take k) = nlO l := by rw [List.take_of_length_le h]

end Go.Proofs.Yteodfbkfpboehaa

/- OC: newlines in all; where the k-th one is; the rune at a place -/
namespace Go.Proofs.Yteodfbkfpboehaa
open Go.RowKit
set_option linter.unusedVariables false

/-- Where the newlines are, ahead of a place. -/
def pos (l : List Int) (n : Nat) : List Nat := (List.range n).filter (fun i => (slots l).getD i 0 == 11)
theorem pos_succ (l : List Int) (k : Nat) : pos l (k + 1) = pos l k ++ (if ((slots l).getD k 0 == 11) = true then [k] else []) := by
  unfold pos
  rw [List.range_succ, List.filter_append]
  congr 1
  simp only [List.filter_cons, List.filter_nil]
theorem pos_length (l : List Int) : ∀ k, (pos l k).length = nlO (l.take k)
  | 0 => by simp [pos, nlO]
  | k + 1 => by
    rw [pos_succ, List.length_append, pos_length l k]
    cases h : ((slots l).getD k 0 == 11) with
    | true => rw [nl_yes h]; simp
    | false => rw [nl_no h]; simp
theorem pos_past (l : List Int) : ∀ n k, ∃ r, pos l (k + n) = pos l k ++ r
  | 0, k => ⟨[], by simp⟩
  | n + 1, k => by
    obtain ⟨r, hr⟩ := pos_past l n k
    exact ⟨_, by rw [← Nat.add_assoc, pos_succ, hr, List.append_assoc]⟩
theorem pos_at {l : List Int} {j n : Nat} (h : ((slots l).getD j 0 == 11) = true) (hn : j < n) : (pos l n)[nlO (l.take j)]? = some j := by
  obtain ⟨r, hr⟩ := pos_past l (n - (j + 1)) (j + 1)
  rw [show j + 1 + (n - (j + 1)) = n by omega, pos_succ, if_pos h] at hr
  rw [hr, List.append_assoc, List.getElem?_append_right (by rw [pos_length]; exact Nat.le_refl _), pos_length, Nat.sub_self]
  rfl
/-- Where the k-th newline is, if there is one. -/
def nlAt (l : List Int) (k : Int) : Option Nat := if k < 0 then none else (pos l 32)[k.toNat]?
theorem nlAt_yes {l : List Int} {j : Nat} {k : Int} (h : ((slots l).getD j 0 == 11) = true) (hj : j < 32) (hk : (nlO (l.take j) : Int) = k) : nlAt l k = some j := by
  unfold nlAt
  rw [if_neg (by omega), show k.toNat = nlO (l.take j) by omega, pos_at h hj]
theorem nlAt_no {l : List Int} {k : Int} (h : k < 0 ∨ (nlO (l.take 32) : Int) ≤ k) : nlAt l k = none := by
  unfold nlAt
  split
  · rfl
  · rw [List.getElem?_eq_none_iff, pos_length]; omega
def nlVal (o : Option Nat) : Value := .tuple #[.int .i64 (o.getD 0 : Nat), .bool o.isSome]

end Go.Proofs.Yteodfbkfpboehaa

/- OD: the rune at a place; all runes -/
namespace Go.Proofs.Yteodfbkfpboehaa
open Go.RowKit
set_option linter.unusedVariables false

/-- A whole row out of its block, at an operation that is wanted, whatever it is guarded by. -/
theorem wpList_load_roww {P : Program} {ops : Array Oper} {rest : List Oper} {o : Oper} {a : Act} {w : World} {Q : Exit → Act → World → Prop} (ty : TypeId) (x : Operand) (ho : o.op = .load ty x)
    (g : Nat) (hx : a.eval x = .pointer (some ⟨g, 0, none⟩)) (hw : Region.wanted o (yielded ops a.tmps) = true) (t : TypeId) (cs : Array Value) (fr : Nat × Nat) (d : TypeDesc) (hg : w.heap[g]? = some (.cells cs t fr))
    (hu : P.underlying ty = some d) (hd : (match d with | .struct _ | .array _ _ => true | _ => false) = true) (hi : (P.info? ty).map (·.size) = some cs.size)
    (h : wpList P ops Q rest (a.put o.dst (.agg cs)) w) : wpList P ops Q (o :: rest) a w :=
  wpList_step fun K hK => by
    rw [if_pos hw]
    exact wp_load_row ty x ho g hx t cs fr d hg hu hd hi (hK _ _ h)

/-- A slot that holds a rune, taken back to the rune. -/
theorem wrap_rune {x r : Int} (hx : x = r + 1) (h0 : 0 ≤ r) (h1 : r ≤ 1114111) : wrap32 (x - 1) = r := by
  unfold wrap32; omega
theorem wrap_slot {r : Int} (h0 : 0 ≤ r) (h1 : r ≤ 1114111) : wrap32 (r + 1) = r + 1 := by
  unfold wrap32; omega

theorem RowAt.frozen {b j : Nat} {t : TypeId} {xs : List Int} {w : World} (h : RowAt b t xs w) : w.frozen? ⟨b, j, none⟩ = false := frozen_of_row w b j _ t h
theorem RowAt.lt {b : Nat} {t : TypeId} {xs : List Int} {w : World} (h : RowAt b t xs w) : b < w.heap.size := (Array.getElem?_eq_some_iff.1 h).1
theorem row_set (xs : List Int) (j : Nat) (x : Int) : (row xs).setIfInBounds j (.int .i32 x) = row (xs.set j x) := by
  apply Array.toList_inj.1
  simp [row, List.map_set]
theorem RowAt.set {b j : Nat} {t : TypeId} {xs : List Int} {w : World} (h : RowAt b t xs w) (x : Int) : RowAt b t (xs.set j x) (w.setCell ⟨b, j, none⟩ (.int .i32 x)) := by
  show (w.setCell ⟨b, j, none⟩ _).heap[b]? = _
  rw [heap_setCell_same w b j (row xs) t _ h, row_set]
theorem RowAt.other {b c j : Nat} {t : TypeId} {xs : List Int} {w : World} (h : RowAt b t xs w) (hn : b ≠ c) (v : Value) : RowAt b t xs (w.setCell ⟨c, j, none⟩ v) :=
  (heap_setCell_other w ⟨c, j, none⟩ b v hn).trans h
theorem rowAt_of_owns {w : World} {base g n : Nat} {e : TypeId} {xs : List Int} (h : w.ownsRow base e 1 (.slice (some ⟨g, 0, none⟩) n n) n (xs.map (Value.int .i32))) : RowAt g e xs w := by
  rcases h.2 with ⟨h', _⟩ | ⟨g', cap', cur, h', hb, hg, hnc, hcm, hcs, htake⟩
  · simp at h'
  · simp only [Value.slice.injEq, Option.some.injEq, Addr.mk.injEq, and_true, true_and] at h'
    obtain ⟨rfl, rfl⟩ := h'
    have e1 : cur.toList = xs.map (Value.int .i32) := by
      rw [← htake]
      exact (List.take_of_length_le (by simp; omega)).symm
    show w.heap[g]? = _
    rw [hg, row, ← e1]
theorem RowAt.owns {w : World} {base g : Nat} {e : TypeId} {xs : List Int} (h : RowAt g e xs w) (hb : base ≤ g) (hm : xs.length ≤ maxLen) : w.ownsRow base e 1 (.slice (some ⟨g, 0, none⟩) xs.length xs.length) xs.length (xs.map (Value.int .i32)) :=
  ⟨by simp, .inr ⟨g, xs.length, row xs, rfl, hb, h, Nat.le_refl _, hm, by rw [row_size]; omega, by rw [Nat.mul_one]; refine (List.take_of_length_le (by simp [row])).trans ?_; simp [row]⟩⟩

/-- The first k of l, and noughts up to its length. -/
def mix (l : List Int) (k : Nat) : List Int := l.take k ++ List.replicate (l.length - k) 0
theorem mix_len {l : List Int} {k : Nat} (h : k ≤ l.length) : (mix l k).length = l.length := by simp [mix]; omega
theorem mix_zero (l : List Int) : mix l 0 = List.replicate l.length 0 := by simp [mix]
theorem mix_all (l : List Int) : mix l l.length = l := by simp [mix]
theorem mix_succ {l : List Int} {k : Nat} (h : k < l.length) : (mix l k).set k (l.getD k 0) = mix l (k + 1) := by
  have hk : (l.take k).length = k := by rw [List.length_take]; omega
  unfold mix
  rw [take_snoc l k h, List.set_append_right _ _ (by omega), hk, Nat.sub_self, show l.length - k = (l.length - (k + 1)) + 1 by omega, List.replicate_succ, List.set_cons_zero, List.append_assoc]
  rfl

theorem info32 : (Try.prog.info? 21).map (fun i => (i.zero, i.size, i.bytes)) = some (some (.int .i32 0), 1, 4) := by kernel_rfl

end Go.Proofs.Yteodfbkfpboehaa

/- OE: the first slots, and those behind -/
namespace Go.Proofs.Yteodfbkfpboehaa
open Go.RowKit
set_option linter.unusedVariables false

theorem size32 : (Try.prog.info? 21).map (·.size) = some 1 := by kernel_rfl
theorem row_list (xs : List Int) : (row xs) = (xs.map (Value.int .i32)).toArray := rfl
theorem rowAt_list {b : Nat} {t : TypeId} {xs : List Int} {w : World} (h : RowAt b t xs w) : w.heap[b]? = some (.cells (xs.map (Value.int .i32)).toArray t (0, 0)) := h
theorem row_cell {b off : Nat} {t : TypeId} {xs : List Int} {w : World} (h : RowAt b t xs w) {n : Nat} {j : Nat} {v : Value} (hj : (((xs.drop off).take n).map (Value.int .i32))[j]? = some v) : w.cell? ((⟨b, off, none⟩ : Addr).add j) = some v := by
  rw [Go.WideShapes.add_plain]
  rw [cell_of_row w b (off + j) _ t (0, 0) h]
  simp only [List.getElem?_map, List.getElem?_take, List.getElem?_drop] at hj
  split at hj
  · simpa [row] using hj
  · simp at hj

/-- The first i slots alone. -/
def fst (xs : List Int) (i : Nat) : List Int := xs.take i ++ List.replicate (32 - i) 0
def bhd (xs : List Int) (i : Nat) : List Int := xs.drop i ++ List.replicate i 0

theorem fst_len {xs : List Int} {i : Nat} (hx : xs.length = 32) (hi : i ≤ 32) : (fst xs i).length = 32 := by simp [fst]; omega
theorem bhd_len {xs : List Int} {i : Nat} (hx : xs.length = 32) (hi : i ≤ 32) : (bhd xs i).length = 32 := by simp [bhd]; omega
def zero32 : List Int := List.replicate 32 0
theorem zero32_len : zero32.length = 32 := rfl
theorem splice_fst {xs : List Int} {i : Nat} (hx : xs.length = 32) (hi : i ≤ 32) : splice (zero32.map (Value.int .i32)) 0 ((xs.take i).map (Value.int .i32)) = (fst xs i).map (Value.int .i32) := by
  have h : (xs.take i).length = i := by rw [List.length_take]; omega
  simp only [splice, List.take_zero, List.nil_append, List.length_map, h, Nat.zero_add, ← List.map_drop, ← List.map_append, fst, zero32, List.drop_replicate]
theorem splice_bhd {xs : List Int} {i : Nat} (hx : xs.length = 32) (hi : i ≤ 32) : splice (zero32.map (Value.int .i32)) 0 ((xs.drop i).map (Value.int .i32)) = (bhd xs i).map (Value.int .i32) := by
  have h : (xs.drop i).length = 32 - i := by rw [List.length_drop]; omega
  simp only [splice, List.take_zero, List.nil_append, List.length_map, h, Nat.zero_add, ← List.map_drop, ← List.map_append, bhd, zero32, List.drop_replicate]
  rw [show 32 - (32 - i) = i by omega]

/-- The rest of a walk asks of a world only this. -/
theorem with_world {P : Program} {c : Code} {Q : Exit → Act → World → Prop} {a : Act} {W0 : World} (F : World → Prop) (h0 : F W0) (h : ∀ W, F W → c.wp P Q a W) : c.wp P Q a W0 := h _ h0
theorem RowAt.setRow {b : Nat} {t : TypeId} {xs ys : List Int} {w : World} (h : RowAt b t xs w) : RowAt b t ys (w.setRow b (row ys)) := setRow_heap w b _ _ t _ h
theorem RowAt.setRow_other {b c : Nat} {t : TypeId} {xs : List Int} {w : World} (h : RowAt b t xs w) (hn : b ≠ c) (ys : Array Value) : RowAt b t xs (w.setRow c ys) := (Go.setRow_other w c b ys hn).trans h

/-- A parameter's row, and two rows of noughts. -/
structure Two (w : World) (t : TypeId) (xs : List Int) (W : World) : Prop where
  par : RowAt w.heap.size t xs W
  res : RowAt (w.heap.size + 1) t zero32 W
  var : RowAt (w.heap.size + 2) t zero32 W
  bel : Below w.heap.size w W
theorem two_newO (w : World) (t : TypeId) (xs : List Int) : Two w t xs (((w.alloc (.cells (row xs) t)).alloc (.cells (row zero32) t)).alloc (.cells (row zero32) t)) :=
  ⟨((rowAt_new w t xs).alloc _).alloc _, by have := (rowAt_new (w.alloc (.cells (row xs) t)) t zero32).alloc (.cells (row zero32) t); simpa using this,
   by have := rowAt_new ((w.alloc (.cells (row xs) t)).alloc (.cells (row zero32) t)) t zero32; simpa using this,
   (((Below.refl _ _).alloc (Nat.le_refl _) _).alloc (by simp) _).alloc (by simp; omega) _⟩
theorem RowAt.under {B b : Nat} {t : TypeId} {xs : List Int} {w w' : World} (h : RowAt b t xs w) (hb : Below B w w') (hlt : b < B) : RowAt b t xs w' := (hb.block b hlt).trans h
theorem below_drew {B : Nat} (w : World) : Below B w w.drew := ⟨rfl, rfl, rfl, Nat.le_refl _, fun _ _ => rfl⟩
end Go.Proofs.Yteodfbkfpboehaa

/- OF: rows compared as a whole; splitting; joining -/
namespace Go.Proofs.Yteodfbkfpboehaa
open Go.RowKit
set_option linter.unusedVariables false

theorem row_inj {xs ys : List Int} (h : row xs = row ys) : xs = ys := by
  have := congrArg Array.toList h
  simp only [row, List.toList_toArray] at this
  exact (List.map_inj_right (fun a b e => by injection e)).1 this
theorem items_row (d : Nat) (xs ys : List Int) (hx : xs.length = 32) (hy : ys.length = 32) (w : World) : ∀ (is : List Nat), (∀ i ∈ is, i < 32) →
    (Op.eqItems (d + 1) 21 1 (row xs) (row ys) is).run Try.prog w = .ok (is.all (fun i => xs.getD i 0 == ys.getD i 0)) w
  | [], _ => by simp [Op.eqItems]
  | i :: is, h => by
    have hi := h i (by simp)
    have p : Try.prog.plainKey 21 = true := by kernel_rfl
    have ih := items_row d xs ys hx hy w is (fun j hj => h j (by simp [hj]))
    simp only [Op.eqItems, Sem.run_bind, Nat.mul_one, run_part_plain w p (row_get xs i (by omega)), run_part_plain w p (row_get ys i (by omega)), Result.andThen_ok, run_equalIn_int w d _ _ _ _ _ Try.underlying21, List.all_cons]
    cases (xs.getD i 0 == ys.getD i 0) with
    | false => rfl
    | true => simp only [Bool.not_true, Bool.false_eq_true, if_false, Bool.true_and]; exact ih
theorem cells32 : Try.prog.cellsOf 21 = 1 := by kernel_rfl
theorem all_eq {xs ys : List Int} (hx : xs.length = 32) (hy : ys.length = 32) : ((List.range 32).all (fun i => xs.getD i 0 == ys.getD i 0)) = (xs == ys) := by
  by_cases h : xs = ys
  · subst h; simp
  · rw [show (xs == ys) = false from beq_eq_false_iff_ne.2 h, List.all_eq_false]
    have : ∃ i, i < 32 ∧ xs.getD i 0 ≠ ys.getD i 0 := by
      apply Classical.byContradiction
      intro hn
      apply h
      apply List.ext_getElem (by omega)
      intro i h1 h2
      have e : xs.getD i 0 = ys.getD i 0 := Classical.byContradiction fun he => hn ⟨i, by omega, he⟩
      simpa [List.getD, h1, h2] using e
    obtain ⟨i, hi, hne⟩ := this
    exact ⟨i, by simp [hi], by simpa using hne⟩
theorem slots_fst (l : List Int) {i : Nat} (h : l.length ≤ 32) (hi : i ≤ 32) : fst (slots l) i = slots (l.take i) := by
  unfold fst slots
  rw [List.take_append, List.length_map, ← List.map_take, List.take_replicate, List.append_assoc, List.replicate_append_replicate, List.length_take]
  congr 2
  omega
theorem slots_bhd (l : List Int) {i : Nat} (h : l.length ≤ 32) (hi : i ≤ 32) : bhd (slots l) i = slots (l.drop i) := by
  unfold bhd slots
  rw [List.drop_append, List.length_map, ← List.map_drop, List.drop_replicate, List.append_assoc, List.replicate_append_replicate, List.length_drop]
  congr 2
  omega
theorem slots_nil : slots [] = zero32 := rfl
theorem slots_len_eq {a b : List Int} (ha : Chunky a) (hb : Chunky b) (h : slots a = slots b) : a.length = b.length := by
  apply Classical.byContradiction
  intro hn
  have key : ∀ {a b : List Int}, Chunky a → Chunky b → slots a = slots b → ¬ a.length < b.length := by
    intro a b ha hb h hlt
    have e := congrArg (fun s => s.getD a.length 0) h
    simp only [slots_out (Nat.le_refl a.length), slots_in hlt] at e
    have := (hb.2 (b.getD a.length 0) (by simp [List.getD, hlt])).1
    omega
  exact absurd (key ha hb h) (by have := key hb ha h.symm; omega)
theorem slots_inj {a b : List Int} (ha : Chunky a) (hb : Chunky b) (h : slots a = slots b) : a = b := by
  have hl := slots_len_eq ha hb h
  apply List.ext_getElem hl
  intro i h1 h2
  have e := congrArg (fun s => s.getD i 0) h
  simp only [slots_in h1, slots_in h2] at e
  have e' : a.getD i 0 = b.getD i 0 := by omega
  simpa [List.getD, h1, h2] using e'
theorem slots_beq {a b : List Int} (ha : Chunky a) (hb : Chunky b) : (slots a == slots b) = (a == b) := by
  by_cases h : a = b
  · subst h; simp
  · rw [beq_eq_false_iff_ne.2 h, beq_eq_false_iff_ne]; exact fun e => h (slots_inj ha hb e)
theorem Chunky.take {l : List Int} (h : Chunky l) (i : Nat) : Chunky (l.take i) := ⟨by have := h.1; rw [List.length_take]; omega, fun r hr => h.2 r (List.mem_of_mem_take hr)⟩
theorem Chunky.drop {l : List Int} (h : Chunky l) (i : Nat) : Chunky (l.drop i) := ⟨by have := h.1; rw [List.length_drop]; omega, fun r hr => h.2 r (List.mem_of_mem_drop hr)⟩
theorem chunky_nil : Chunky [] := ⟨by simp, by simp⟩
theorem Chunky.app {a b : List Int} (ha : Chunky a) (hb : Chunky b) (h : a.length + b.length ≤ 32) : Chunky (a ++ b) :=
  ⟨by rw [List.length_append]; exact h, fun r hr => (List.mem_append.1 hr).elim (ha.2 r) (hb.2 r)⟩
end Go.Proofs.Yteodfbkfpboehaa

/- OG: Split -/
namespace Go.Proofs.Yteodfbkfpboehaa
open Go.RowKit
set_option linter.unusedVariables false

def none3 : Value := .tuple #[.agg (row zero32), .agg (row zero32), .int .i64 5]

theorem fold_get (L : List Value) : ∀ (k : Nat) (Z : Array Value) (j : Nat), j < Z.size → ((L.zipIdx k).foldl (fun cs x => cs.setIfInBounds x.2 x.1) Z)[j]? = if k ≤ j ∧ j < k + L.length then L[j - k]? else Z[j]? := by
  induction L with
  | nil => intro k Z j hj; simp; intro h1 h2; omega
  | cons x L ih =>
    intro k Z j hj
    rw [List.zipIdx_cons, List.foldl_cons, ih (k + 1) _ j (by simpa using hj), List.length_cons, Array.getElem?_setIfInBounds]
    by_cases h1 : k = j
    · subst h1
      rw [if_neg (by omega), if_pos rfl, if_pos hj, if_pos (by omega), Nat.sub_self, List.getElem?_cons_zero]
    · rw [if_neg h1]
      by_cases h2 : k + 1 ≤ j ∧ j < k + 1 + L.length
      · rw [if_pos h2, if_pos (by omega), show j - k = (j - (k + 1)) + 1 by omega, List.getElem?_cons_succ]
      · rw [if_neg h2, if_neg (by omega)]
theorem fold_size (L : List (Value × Nat)) : ∀ (Z : Array Value), (L.foldl (fun cs x => cs.setIfInBounds x.2 x.1) Z).size = Z.size := by
  induction L with
  | nil => intro Z; rfl
  | cons x L ih => intro Z; rw [List.foldl_cons, ih]; simp
theorem fold_row (xs : List Int) (hx : xs.length = 32) (Z : Array Value) (hz : Z.size = 32) : Array.foldl (fun cs x => cs.setIfInBounds x.2 x.1) Z ((row xs).zipIdx 0) 0 32 = row xs := by
  have hs : (row xs).size = 32 := by rw [row_size, hx]
  have e : Array.foldl (fun (cs : Array Value) x => cs.setIfInBounds x.2 x.1) Z ((row xs).zipIdx 0) 0 32 = ((row xs).toList.zipIdx 0).foldl (fun cs x => cs.setIfInBounds x.2 x.1) Z := by
    have e2 : 32 = ((row xs).zipIdx 0).size := by simp [hs]
    rw [← Array.toList_zipIdx, e2, Array.foldl_toList]
  rw [e]
  apply Array.ext_getElem?
  intro j
  by_cases hj : j < 32
  · rw [fold_get _ 0 Z j (by omega), if_pos (by simp [row, hx]; omega)]
    simp [row]
  · rw [Array.getElem?_eq_none (by rw [fold_size, hz]; omega), Array.getElem?_eq_none (by rw [hs]; omega)]

/-! a region that draws its order, walked by hand -/
section
variable {P : Program} {l : List Oper} {Q : Exit → Act → World → Prop} {md : Region.Mode} {S : World → Prop} {fuel : Nat} {listed : Array Bool} {a : Act} {w : World}
theorem h_val {i : Nat} {oi : Oper} {v : Value} (hi : l[i]? = some oi) (hs : Region.noSelect l.toArray = true) (hf : Region.free md l.toArray listed i = true) (hr : (Region.ready md l.toArray listed).contains i = true)
    (hQ : ∀ c a w, Q (.panic c) (a.put oi.dst v) w → Q (.panic c) a w) (hw : Region.wanted oi (yielded l.toArray a.tmps) = true) (hv : ∀ w, S w → (execOp a.eval oi).run P w = .ok (.value v) w) (hS : S w)
    (h : wpAnyH P md l.toArray Q S fuel (listed.setIfInBounds i true) (a.put oi.dst v) w) : wpAnyH P md l.toArray Q S (fuel + 1) listed a w :=
  wpAnyH_take (by simpa using hi) hs hf hr hQ (.inl ⟨hw, hv⟩) hS h
theorem h_call {i : Nat} {oi : Oper} {f : FuncId} {args : Array Value} (hi : l[i]? = some oi) (hr : Region.ready md l.toArray listed = [i]) (hw : Region.wanted oi (yielded l.toArray a.tmps) = true)
    (hv : (execOp a.eval oi).run P w = .ok (.enter f args) w)
    (hc : Calls P f args w fun e w' => ∃ v, e = .returned v ∧ S w' ∧ wpAnyH P md l.toArray Q S fuel (listed.setIfInBounds i true) (a.put oi.dst v) w') : wpAnyH P md l.toArray Q S (fuel + 1) listed a w := by
  refine wpAnyH_all hr (by simp) fun j hj => ?_
  simp at hj
  subst hj
  have hi2 : l.toArray[j]? = some oi := by simpa using hi
  unfold wpOp
  simp only [hi2, hw, if_true]
  left
  unfold Oper.wp
  rw [hv]
  simp only [Oper.upon]
  refine hc.mono fun e w' ⟨v, he, h1, h2⟩ => ?_
  subst he
  exact ⟨h1, h2⟩
theorem h_start {id : Nat} (hm : P.follows .mixedOrders = true) (h : wpAnyH P .any l.toArray Q S l.toArray.size (Array.replicate l.toArray.size false) a w.drew) : (Code.region id l.toArray true).wp P Q a w := wp_region_held hm h
theorem h_done (hr : Region.ready md l.toArray listed = []) (h : Q .normal a w) : wpAnyH P md l.toArray Q S fuel listed a w := wpAnyH_done hr h _
/-- An operation that turns the world, the only one that may come up. -/
theorem h_step {i : Nat} {oi : Oper} (hi : l[i]? = some oi) (hr : Region.ready md l.toArray listed = [i]) (hw : Region.wanted oi (yielded l.toArray a.tmps) = true)
    (h : ∀ K : Act → World → Prop, (∀ a' w', S w' → wpAnyH P md l.toArray Q S fuel (listed.setIfInBounds i true) a' w' → K a' w') → oi.wp P a w K Q) : wpAnyH P md l.toArray Q S (fuel + 1) listed a w := by
  refine wpAnyH_all hr (by simp) fun j hj => ?_
  simp at hj
  subst hj
  have hi2 : l.toArray[j]? = some oi := by simpa using hi
  unfold wpOp
  simp only [hi2, hw, if_true]
  left
  exact h _ fun a' w' h1 h2 => ⟨h1, h2⟩
/-- A whole row that is loaded, as a value. -/
theorem x_load {o : Oper} (ty : TypeId) (x : Operand) (ho : o.op = .load ty x) (g : Nat) (hx : a.eval x = .pointer (some ⟨g, 0, none⟩)) (t : TypeId) (cs : Array Value) (fr : Nat × Nat) (d : TypeDesc) (hg : w.heap[g]? = some (.cells cs t fr))
    (hu : P.underlying ty = some d) (hd : (match d with | .struct _ | .array _ _ => true | _ => false) = true) (hi : (P.info? ty).map (·.size) = some cs.size) : (execOp a.eval o).run P w = .ok (.value (.agg cs)) w := by
  unfold execOp
  simp only [ho, hx, Instr.loadAt, Instr.sureAddr, Sem.run_bind, Sem.run_pure, Result.andThen_ok, run_loadVar_row w g t ty cs fr d hg hu hd hi]
end

end Go.Proofs.Yteodfbkfpboehaa

/- TBN: what an arena of rubric/tree.node tells -/
namespace Go.Proofs.Yteodfbkfpboehaa
open Go.RowKit
set_option linter.unusedVariables false

/-- A node's numbers. -/
structure Nd where
  held : Int
  height : Int
  len : Int
  marks : Int
  left : Int
  right : Int
  thing : Int
@[reducible] def Nd.c (n : Nd) : List Value := [.int .i64 n.held, .int .i64 n.height, .int .i64 n.len, .int .i64 n.marks, .int .i64 n.left, .int .i64 n.right, .int .i64 n.thing]
theorem nd_one (n : Nd) : ∀ u ∈ n.c, u.oneCell' = true := by
  intro u hu
  simp only [Nd.c, List.mem_cons, List.not_mem_nil, or_false] at hu
  rcases hu with rfl | rfl | rfl | rfl | rfl | rfl | rfl <;> rfl
def nd0 : Nd := ⟨0, 0, 0, 0, 0, 0, 0⟩
def K_N : KT Nd := ⟨138, 135, 131, 7, Nd.c, nd0.c, fun _ => rfl, rfl, nd_one, nd_one nd0, by decide, by decide, by decide, by decide, by decide, by decide⟩

theorem zinfo_N : (Try.prog.info? 102).bind (·.zero) = some (.agg K_N.zc.toArray) := by kernel_rfl
theorem sinfo_N (cs : List Value) (h : cs.length = 7) : (Try.prog.info? 102).map (·.size) = some cs.length := by rw [h]; kernel_rfl
theorem ainfo_N (cs : Array Value) (h : cs.size = 7) : (Try.prog.info? 102).map (·.size) = some cs.size := by rw [h]; kernel_rfl
theorem pinfo_N (cs : Array Value) (h : cs.size = 8) : (Try.prog.info? 131).map (·.size) = some cs.size := by rw [h]; kernel_rfl
theorem csize_N (x : Nd) : (K_N.c x).toArray.size = 7 := by rw [List.size_toArray]; exact K_N.len x
theorem cone_N (x : Nd) : (K_N.c x).toArray.all (·.oneCell') = true := all_oneCell_toArray (K_N.one x)
section
variable {S : Nat → Prop} {ab st : Nat} {sv fv : Value} {ps : List (Option Nd)} {fr : List Nat}
theorem iszero_N (w : World) (h : AtM K_N S ab st sv fv ps fr w) :
    Calls Try.prog 89 #[.pointer (some ⟨ab, 0, none⟩)] w fun e w' => e = .returned (.bool false) ∧ w' = w := by
  obtain ⟨c0, -⟩ := h.cells
  clear h
  go_enter Try.func89, Try.ntmps89
  go_wp2
  go_ret
  exact ⟨rfl, rfl⟩
theorem cap_N (w : World) (h : AtM K_N S ab st sv fv ps fr w) :
    Calls Try.prog 87 #[.pointer (some ⟨ab, 0, none⟩)] w fun e w' => e = .returned (.int .i64 (ps.length : Nat)) ∧ w' = w := by
  obtain ⟨c0, c1, -⟩ := h.cells
  have HZ := Lib.hid (iszero_N w h)
  obtain ⟨sa, sc, rfl, -, -⟩ := own_shape h.hsv
  clear h
  go_enter Try.func87, Try.ntmps87
  go_wp2_with (go_at_call 89; refine HZ.out.mono ?_; rintro e w1 ⟨rfl, rfl⟩)
  go_ret
  exact ⟨rfl, rfl⟩
theorem taken_N (w : World) {g cap k : Nat} {p : Option Nd} (h : AtM K_N S ab st (.slice (some ⟨g, 0, none⟩) ps.length cap) fv ps fr w) (hk : ps[k]? = some p) :
    w.cell? ⟨g, k * 8, none⟩ = some (.bool p.isSome) := by
  have := (h.place hk).1 0 (.bool p.isSome) (by cases p <;> rfl)
  exact this
theorem find_yes_N (w : World) {g cap k : Nat} {x : Nd} (h : AtM K_N S ab st (.slice (some ⟨g, 0, none⟩) ps.length cap) fv ps fr w) (hk : ps[k]? = some (some x)) :
    Calls Try.prog 82 #[.pointer (some ⟨ab, 0, none⟩), .int .i64 (k : Nat)] w fun e w' => e = .returned (.tuple #[.pointer (some ⟨g, k * 8, none⟩), .int .i64 0]) ∧ w' = w := by
  obtain ⟨c0, c1, -⟩ := h.cells
  have HP := Lib.hid (cap_N w h)
  have p0 := taken_N w h hk
  have hlt := (List.getElem?_eq_some_iff.1 hk).1
  have g0 : decide ((k : Int) < 0) = false := by rw [decide_eq_false_iff_not]; omega
  have g1 : decide ((ps.length : Int) ≤ (k : Int)) = false := by rw [decide_eq_false_iff_not]; omega
  have k0 : (0 : Int) ≤ (k : Int) := by omega
  have k1 : (k : Int) < (ps.length : Int) := by omega
  clear h hk
  go_enter Try.func82, Try.ntmps82
  go_wp2_with (go_at_call 87; refine HP.out.mono ?_; rintro e w1 ⟨rfl, rfl⟩)
  exact bodyPost_ret (by simp [results, Try.results82, go_sem]) rfl ⟨rfl, rfl⟩
theorem find_no_N (A : ArS Nd) (i : Int) (w : World) (h : AtM K_N S ab st sv fv A.ps fr w) (hh : A.has i = false) :
    Calls Try.prog 82 #[.pointer (some ⟨ab, 0, none⟩), .int .i64 i] w fun e w' => e = .returned (.tuple #[.pointer none, .int .i64 5]) ∧ w' = w := by
  obtain ⟨c0, c1, -⟩ := h.cells
  have HP := Lib.hid (cap_N w h)
  by_cases h0 : i < 0
  · have g0 : decide (i < 0) = true := by rw [decide_eq_true_iff]; exact h0
    clear h hh
    go_enter Try.func82, Try.ntmps82
    go_wp2_with (go_at_call 87; refine HP.out.mono ?_; rintro e w1 ⟨rfl, rfl⟩)
    exact bodyPost_ret (by simp [results, Try.results82, go_sem]) rfl ⟨rfl, rfl⟩
  · have g0 : decide (i < 0) = false := by rw [decide_eq_false_iff_not]; exact h0
    by_cases h1 : (A.ps.length : Int) ≤ i
    · have g1 : decide ((A.ps.length : Int) ≤ i) = true := by rw [decide_eq_true_iff]; exact h1
      clear h hh
      go_enter Try.func82, Try.ntmps82
      go_wp2_with (go_at_call 87; refine HP.out.mono ?_; rintro e w1 ⟨rfl, rfl⟩)
      exact bodyPost_ret (by simp [results, Try.results82, go_sem]) rfl ⟨rfl, rfl⟩
    · have g1 : decide ((A.ps.length : Int) ≤ i) = false := by rw [decide_eq_false_iff_not]; exact h1
      obtain ⟨k, rfl⟩ : ∃ k : Nat, i = k := ⟨i.toNat, by omega⟩
      obtain ⟨g, cap, rfl, -, -⟩ := h.form (by omega)
      have hk : A.ps[k]? = some none := by
        rw [at_get (by omega)]
        rw [has_nat] at hh
        cases e : A.at_ k with
        | none => rfl
        | some x => rw [e] at hh; cases hh
      have p0 := taken_N w h hk
      have p0 : w.cell? ⟨g, k * 8, none⟩ = some (.bool false) := p0
      have k0 : (0 : Int) ≤ (k : Int) := by omega
      have k1 : (k : Int) < (A.ps.length : Int) := by omega
      clear h hh hk
      go_enter Try.func82, Try.ntmps82
      go_wp2_with (go_at_call 87; refine HP.out.mono ?_; rintro e w1 ⟨rfl, rfl⟩)
      exact bodyPost_ret (by simp [results, Try.results82, go_sem]) rfl ⟨rfl, rfl⟩

theorem results_at_N {W : World} {g : Nat} {cs : Array Value} {ty : TypeId} (hcs : cs.size = 7) (h : W.heap[g]? = some (.cells cs ty (0, 0))) (tm : Array Value) (h4 : tm.getD 4 undef = .pointer (some ⟨g, 0, none⟩)) {e : Int} (h5 : tm.getD 5 undef = .int .i64 e) :
    (results Try.f63 tm).run Try.prog W = .ok (.tuple #[.agg cs, .int .i64 e]) W := by
  have r4 := run_loadVar_row (P := Try.prog) W g _ 102 cs _ _ h Try.underlying102 rfl (ainfo_N cs hcs)
  have h4' : tm[4]?.getD undef = .pointer (some ⟨g, 0, none⟩) := by simpa using h4
  have h5' : tm[5]?.getD undef = .int .i64 e := by simpa using h5
  simp [results, Try.results63, h4', h5', asAddr, r4]
theorem at_yes_N (w : World) {g cap k : Nat} {x : Nd} (h : AtM K_N S ab st (.slice (some ⟨g, 0, none⟩) ps.length cap) fv ps fr w) (hk : ps[k]? = some (some x)) :
    Calls Try.prog 63 #[.pointer (some ⟨ab, 0, none⟩), .int .i64 (k : Nat)] w fun e w' => e = .returned (.tuple #[.agg (K_N.c x).toArray, .int .i64 0]) ∧ Below w.heap.size w w' := by
  have hbA := (Below.refl w.heap.size w).alloc (Nat.le_refl _) (.cells K_N.zc.toArray 102)
  have hA := h.below hbA
  have HF := Lib.hid (find_yes_N _ hA hk)
  have HR := Lib.hid (hA.thing hk)
  have HR : Hid ((w.alloc (.cells K_N.zc.toArray 102)).rangeAt g (k * 8 + 1) (K_N.c x)) := HR
  have HZ := Lib.hid (heap_alloc_new w (.cells K_N.zc.toArray 102))
  have HI := Lib.hid (sinfo_N (K_N.c x) (K_N.len x))
  have HS := Lib.hid (csize_N x)
  have HO := Lib.hid (cone_N x)
  have HB := Lib.hid (below_setRow hbA (Nat.le_refl _) (K_N.c x).toArray)
  have HW := Lib.hid (setRow_heap _ _ _ (K_N.c x).toArray _ _ HZ.out)
  clear h hk hbA hA
  go_enter Try.func63, Try.ntmps63
  go_wp2_with (first
    | (refine wpList_alloc_row rfl 102 rfl K_N.zc zinfo_N ?_)
    | (go_at_call 82; refine HF.out.mono ?_; rintro e w1 ⟨rfl, rfl⟩)
    | (refine wpList_load_midw (by rfl) 102 (.tmp 21) rfl g (k * 8 + 1) rfl (K_N.c x) _ HR.out Try.underlying102 rfl HI.out ?_)
    | (refine wpList_store_row rfl 102 (.tmp 4) (.tmp 22) rfl w.heap.size (K_N.c x).toArray rfl rfl _ _ HZ.out (ainfo_N _ HS.out) (by rw [HS.out]; rfl) HO.out ?_))
  exact bodyPost_ret (results_at_N HS.out HW.out _ rfl rfl) rfl ⟨rfl, HB.out⟩
theorem at_no_N (A : ArS Nd) (i : Int) (w : World) (h : AtM K_N S ab st sv fv A.ps fr w) (hh : A.has i = false) :
    Calls Try.prog 63 #[.pointer (some ⟨ab, 0, none⟩), .int .i64 i] w fun e w' => e = .returned (.tuple #[.agg K_N.zc.toArray, .int .i64 5]) ∧ Below w.heap.size w w' := by
  have hbA := (Below.refl w.heap.size w).alloc (Nat.le_refl _) (.cells K_N.zc.toArray 102)
  have hbC := hbA.alloc (by simp) (.cells K_N.zc.toArray 102)
  have hA := h.below hbA
  have HF := Lib.hid (find_no_N A i _ hA hh)
  have HZ := Lib.hid (heap_alloc_new w (.cells K_N.zc.toArray 102))
  have HZ2 := Lib.hid (heap_alloc_new (w.alloc (.cells K_N.zc.toArray 102)) (.cells K_N.zc.toArray 102))
  have HZ3 := Lib.hid ((heap_alloc_old (w.alloc (.cells K_N.zc.toArray 102)) (.cells K_N.zc.toArray 102) (lt_of_heap HZ.out)).trans HZ.out)
  have HS : Hid (K_N.zc.toArray.size = 7) := Lib.hid (by rw [List.size_toArray]; exact K_N.lenZ)
  have HO : Hid (K_N.zc.toArray.all (·.oneCell') = true) := Lib.hid (all_oneCell_toArray K_N.oneZ)
  have HB := Lib.hid (below_setRow hbC (Nat.le_refl _) K_N.zc.toArray)
  have HW := Lib.hid (setRow_heap _ _ _ K_N.zc.toArray _ _ HZ3.out)
  have hsz : (w.alloc (.cells K_N.zc.toArray 102)).heap.size = w.heap.size + 1 := by simp
  rw [hsz] at HZ2
  clear h hh hbA hA hbC hsz
  go_enter Try.func63, Try.ntmps63
  go_wp2_with (first
    | (refine wpList_alloc_row rfl 102 rfl K_N.zc zinfo_N ?_)
    | (go_at_call 82; refine HF.out.mono ?_; rintro e w1 ⟨rfl, rfl⟩)
    | (refine wpList_load_roww 102 (.tmp 8) rfl (w.heap.size + 1) rfl (by rfl) _ _ _ _ HZ2.out Try.underlying102 rfl (ainfo_N _ HS.out) ?_)
    | (refine wpList_store_row rfl 102 (.tmp 4) (.tmp 17) rfl w.heap.size K_N.zc.toArray rfl rfl _ _ HZ3.out (ainfo_N _ HS.out) rfl HO.out ?_))
  exact bodyPost_ret (results_at_N HS.out HW.out _ rfl rfl) rfl ⟨rfl, HB.out⟩
end
end Go.Proofs.Yteodfbkfpboehaa

/- WE: trees of things in arenas, as plain data: what a forest has, and how it turns -/
namespace Go.Proofs.Yteodfbkfpboehaa
open Go.RowKit
set_option linter.unusedVariables false

/-- What a thing has, one behind the other; how many marks these have. -/
structure Way (α β : Type) where
  fl : α → List β
  ln : List β → Nat
  lnA : ∀ a b, ln (a ++ b) = ln a + ln b
  mks : List β → Nat
  mkA : ∀ a b, mks (a ++ b) = mks a + mks b
/-- A list's weight: how long it is, and much for each of its things. -/
def Way.wt {α β : Type} (W : Way α β) (l : List β) : Nat := W.ln l + 10000 * l.length
theorem Way.ln_nil {α β : Type} (W : Way α β) : W.ln [] = 0 := by have := W.lnA [] []; simp at this; exact this
theorem Way.wt_nil {α β : Type} (W : Way α β) : W.wt [] = 0 := by simp [Way.wt, W.ln_nil]
theorem Way.wt_app {α β : Type} (W : Way α β) (a b : List β) : W.wt (a ++ b) = W.wt a + W.wt b := by
  unfold Way.wt
  rw [W.lnA, List.length_append]; omega
theorem Way.wt_ln {α β : Type} (W : Way α β) (l : List β) : W.ln l ≤ W.wt l := Nat.le_add_right _ _
theorem Way.wt_len {α β : Type} (W : Way α β) (l : List β) : 10000 * l.length ≤ W.wt l := Nat.le_add_left _ _
inductive Tr (α : Type) where
  | nil
  | leaf (n t : Nat) (x : α)
  | fork (n : Nat) (l r : Tr α)
section
variable {α β : Type}
def Tr.id : Tr α → Int
  | .nil => -1
  | .leaf n _ _ => (n : Nat)
  | .fork n _ _ => (n : Nat)
def Tr.ht : Tr α → Nat
  | .nil => 0
  | .leaf _ _ _ => 1
  | .fork _ l r => max l.ht r.ht + 1
def Tr.el (W : Way α β) : Tr α → List β
  | .nil => []
  | .leaf _ _ x => W.fl x
  | .fork _ l r => l.el W ++ r.el W
def Tr.ns : Tr α → List Nat
  | .nil => []
  | .leaf n _ _ => [n]
  | .fork n l r => n :: (l.ns ++ r.ns)
def Tr.ts : Tr α → List Nat
  | .nil => []
  | .leaf _ t _ => [t]
  | .fork _ l r => l.ts ++ r.ts
def Tr.nd (W : Way α β) : Tr α → Nd
  | .nil => nd0
  | .leaf _ t x => ⟨1, 1, W.ln (W.fl x), W.mks (W.fl x), -1, -1, (t : Nat)⟩
  | .fork n l r => ⟨1, (Tr.ht (.fork n l r) : Nat), W.ln (Tr.el W (.fork n l r)), W.mks (Tr.el W (.fork n l r)), l.id, r.id, -1⟩
/-- The tree lies in both arenas. -/
def Tr.In (W : Way α β) (A : ArS Nd) (C : ArS α) : Tr α → Prop
  | .nil => True
  | .leaf n t x => A.at_ n = some (Tr.nd W (.leaf n t x)) ∧ C.at_ t = some x ∧ 0 < (W.fl x).length
  | .fork n l r => A.at_ n = some (Tr.nd W (.fork n l r)) ∧ l ≠ .nil ∧ r ≠ .nil ∧ l.In W A C ∧ r.In W A C
variable {W : Way α β} {A A' : ArS Nd} {C C' : ArS α} {F F' : List (Tr α)} {T : Tr α}
theorem Tr.nd_height (T : Tr α) : (T.nd W).height = (T.ht : Nat) := by cases T <;> rfl
theorem Way.mk_nil (W : Way α β) : W.mks [] = 0 := by have := W.mkA [] []; simp at this; exact this
theorem Tr.nd_marks (T : Tr α) : (T.nd W).marks = (W.mks (T.el W) : Nat) := by
  cases T with
  | nil => show (0 : Int) = _; rw [Tr.el, W.mk_nil]; rfl
  | leaf => rfl
  | fork => rfl
theorem Tr.nd_len (T : Tr α) : (T.nd W).len = (W.ln (T.el W) : Nat) := by
  cases T with
  | nil => show (0 : Int) = _; rw [Tr.el, W.ln_nil]; rfl
  | leaf => rfl
  | fork => rfl
theorem Tr.id_nil : (Tr.nil : Tr α).id = -1 := rfl
theorem Tr.id_pos {T : Tr α} (h : T ≠ .nil) : 0 ≤ T.id ∧ ∃ n : Nat, T.id = n ∧ n ∈ T.ns := by
  cases T with
  | nil => exact absurd rfl h
  | leaf n t x => exact ⟨by simp [Tr.id], n, rfl, by simp [Tr.ns]⟩
  | fork n l r => exact ⟨by simp [Tr.id], n, rfl, by simp [Tr.ns]⟩
theorem Tr.id_ne {T : Tr α} (h : T ≠ .nil) : (T.id == -1) = false := by
  have := (Tr.id_pos h).1
  rw [beq_eq_false_iff_ne]; omega
theorem Tr.In.some_n : ∀ {T : Tr α}, T.In W A C → ∀ i ∈ T.ns, (A.at_ i).isSome = true
  | .nil, _, i, hi => by simp [Tr.ns] at hi
  | .leaf n t x, h, i, hi => by
    obtain rfl : i = n := by simpa [Tr.ns] using hi
    rw [h.1]; rfl
  | .fork n l r, h, i, hi => by
    simp only [Tr.ns, List.mem_cons, List.mem_append] at hi
    rcases hi with rfl | hi | hi
    · rw [h.1]; rfl
    · exact h.2.2.2.1.some_n i hi
    · exact h.2.2.2.2.some_n i hi
theorem Tr.In.some_t : ∀ {T : Tr α}, T.In W A C → ∀ i ∈ T.ts, (C.at_ i).isSome = true
  | .nil, _, i, hi => by simp [Tr.ts] at hi
  | .leaf n t x, h, i, hi => by
    obtain rfl : i = t := by simpa [Tr.ts] using hi
    rw [h.2.1]; rfl
  | .fork n l r, h, i, hi => by
    simp only [Tr.ts, List.mem_append] at hi
    rcases hi with hi | hi
    · exact h.2.2.2.1.some_t i hi
    · exact h.2.2.2.2.some_t i hi
theorem Tr.In.congr : ∀ {T : Tr α}, T.In W A C → (∀ i ∈ T.ns, A'.at_ i = A.at_ i) → (∀ i ∈ T.ts, C'.at_ i = C.at_ i) → T.In W A' C'
  | .nil, _, _, _ => trivial
  | .leaf n t x, h, hn, ht => ⟨by rw [hn n (by simp [Tr.ns])]; exact h.1, by rw [ht t (by simp [Tr.ts])]; exact h.2.1, h.2.2⟩
  | .fork n l r, h, hn, ht => ⟨by rw [hn n (by simp [Tr.ns])]; exact h.1, h.2.1, h.2.2.1,
      h.2.2.2.1.congr (fun i hi => hn i (by simp [Tr.ns, hi])) (fun i hi => ht i (by simp [Tr.ts, hi])),
      h.2.2.2.2.congr (fun i hi => hn i (by simp [Tr.ns, hi])) (fun i hi => ht i (by simp [Tr.ts, hi]))⟩
theorem Tr.In.el_pos : ∀ {T : Tr α}, T.In W A C → T ≠ .nil → 0 < (T.el W).length
  | .nil, _, h => absurd rfl h
  | .leaf n t x, h, _ => h.2.2
  | .fork n l r, h, _ => by
    have := h.2.2.2.1.el_pos h.2.1
    simp only [Tr.el, List.length_append]; omega
theorem Tr.In.ht_pos : ∀ {T : Tr α}, T ≠ .nil → 0 < T.ht
  | .nil, h => absurd rfl h
  | .leaf n t x, _ => by simp [Tr.ht]
  | .fork n l r, _ => by simp [Tr.ht]
theorem Tr.In.ns_le : ∀ {T : Tr α}, T.In W A C → T.ns.length ≤ 2 * (T.el W).length ∧ T.ts.length ≤ (T.el W).length ∧ (T ≠ .nil → T.ns.length + 1 ≤ 2 * (T.el W).length)
  | .nil, _ => by simp [Tr.ns, Tr.ts]
  | .leaf n t x, h => by
    have := h.2.2
    simp only [Tr.ns, Tr.ts, Tr.el, List.length_singleton]
    exact ⟨by omega, by omega, fun _ => by omega⟩
  | .fork n l r, h => by
    obtain ⟨a1, a2, a3⟩ := h.2.2.2.1.ns_le
    obtain ⟨b1, b2, b3⟩ := h.2.2.2.2.ns_le
    have a3 := a3 h.2.1
    have b3 := b3 h.2.2.1
    simp only [Tr.ns, Tr.ts, Tr.el, List.length_cons, List.length_append]
    exact ⟨by omega, by omega, fun _ => by omega⟩
theorem Tr.In.fork_ht {n : Nat} {l r : Tr α} (h : (Tr.fork n l r).In W A C) : 2 ≤ (Tr.fork n l r).ht := by
  have := Tr.In.ht_pos h.2.1
  simp only [Tr.ht]; omega

/-! ### a forest -/
def Nsf (F : List (Tr α)) : List Nat := F.flatMap Tr.ns
def Tsf (F : List (Tr α)) : List Nat := F.flatMap Tr.ts
def tot (W : Way α β) (F : List (Tr α)) : Nat := (F.map fun T => W.wt (T.el W)).sum
structure Has (W : Way α β) (A : ArS Nd) (C : ArS α) (F : List (Tr α)) : Prop where
  inn : ∀ T ∈ F, T.In W A C
  nN : (Nsf F).Nodup
  nT : (Tsf F).Nodup
  cN : cnt A.ps = (Nsf F).length
  cT : cnt C.ps = (Tsf F).length
theorem nsf_cons (T : Tr α) (F : List (Tr α)) : Nsf (T :: F) = T.ns ++ Nsf F := by simp [Nsf]
theorem tsf_cons (T : Tr α) (F : List (Tr α)) : Tsf (T :: F) = T.ts ++ Tsf F := by simp [Tsf]
theorem tot_cons (T : Tr α) (F : List (Tr α)) : tot W (T :: F) = W.wt (T.el W) + tot W F := by simp [tot]
theorem tot_nil : tot W ([] : List (Tr α)) = 0 := rfl
theorem mem_nsf {T : Tr α} (h : T ∈ F) {i : Nat} (hi : i ∈ T.ns) : i ∈ Nsf F := List.mem_flatMap.2 ⟨T, h, hi⟩
theorem mem_tsf {T : Tr α} (h : T ∈ F) {i : Nat} (hi : i ∈ T.ts) : i ∈ Tsf F := List.mem_flatMap.2 ⟨T, h, hi⟩
theorem Has.perm (h : Has W A C F) (hp : F.Perm F') : Has W A C F' :=
  ⟨fun T hT => h.inn T (hp.mem_iff.2 hT), (hp.flatMap_right Tr.ns).nodup_iff.1 h.nN, (hp.flatMap_right Tr.ts).nodup_iff.1 h.nT, h.cN.trans (hp.flatMap_right Tr.ns).length_eq, h.cT.trans (hp.flatMap_right Tr.ts).length_eq⟩
theorem Has.swap {T U : Tr α} (h : Has W A C (T :: U :: F)) : Has W A C (U :: T :: F) := h.perm (List.Perm.swap _ _ _)
theorem has_nil : Has W A C (.nil :: F) ↔ Has W A C F := by
  constructor
  · intro h
    have e1 := nsf_cons .nil F
    have e2 := tsf_cons .nil F
    simp only [Tr.ns, Tr.ts, List.nil_append] at e1 e2
    exact ⟨fun T hT => h.inn T (List.mem_cons_of_mem _ hT), e1 ▸ h.nN, e2 ▸ h.nT, e1 ▸ h.cN, e2 ▸ h.cT⟩
  · intro h
    have e1 := nsf_cons .nil F
    have e2 := tsf_cons .nil F
    simp only [Tr.ns, Tr.ts, List.nil_append] at e1 e2
    refine ⟨fun T hT => ?_, e1 ▸ h.nN, e2 ▸ h.nT, e1 ▸ h.cN, e2 ▸ h.cT⟩
    rcases List.mem_cons.1 hT with rfl | hT
    · trivial
    · exact h.inn T hT
theorem Has.some_n (h : Has W A C F) {i : Nat} (hi : i ∈ Nsf F) : (A.at_ i).isSome = true := by
  obtain ⟨T, hT, hi⟩ := List.mem_flatMap.1 hi
  exact (h.inn T hT).some_n i hi
theorem Has.some_t (h : Has W A C F) {i : Nat} (hi : i ∈ Tsf F) : (C.at_ i).isSome = true := by
  obtain ⟨T, hT, hi⟩ := List.mem_flatMap.1 hi
  exact (h.inn T hT).some_t i hi
theorem Has.count : ∀ {F : List (Tr α)}, (∀ T ∈ F, T.In W A C) → 10000 * (Nsf F).length ≤ 2 * tot W F ∧ 10000 * (Tsf F).length ≤ tot W F
  | [], _ => by simp [Nsf, Tsf, tot]
  | T :: F, h => by
    obtain ⟨a1, a2⟩ := Has.count (F := F) (fun U hU => h U (List.mem_cons_of_mem _ hU))
    obtain ⟨b1, b2, -⟩ := (h T List.mem_cons_self).ns_le
    have hw := W.wt_len (T.el W)
    rw [nsf_cons, tsf_cons, tot_cons, List.length_append, List.length_append]
    exact ⟨by omega, by omega⟩
theorem Has.room (h : Has W A C F) : 10000 * cnt A.ps ≤ 2 * tot W F ∧ 10000 * cnt C.ps ≤ tot W F := by rw [h.cN, h.cT]; exact Has.count h.inn
theorem cnt_take {γ : Type} {B : ArS γ} (h : B.Ok) (x : γ) : cnt (B.take x).ps = cnt B.ps + 1 := by
  have hf := freshA h
  unfold ArS.fresh at hf
  unfold ArS.take
  cases hg : B.free.getLast? with
  | some i =>
    rw [hg] at hf
    obtain ⟨h1, h2⟩ := h.freeB i (List.mem_of_getLast? hg)
    have hc := cnt_set B.ps i (some x) h1
    have e : B.ps.getD i none = none := h2
    rw [e] at hc
    simpa using hc
  | none => exact cnt_snoc _ _
theorem cnt_out {γ : Type} {B : ArS γ} {i : Nat} {x : γ} (h : B.at_ i = some x) : cnt (B.out i).ps + 1 = cnt B.ps := by
  have hc := cnt_set B.ps i none (at_lt h)
  have e : B.ps.getD i none = some x := h
  rw [e] at hc
  show cnt (B.ps.set i none) + 1 = cnt B.ps
  simpa using hc
theorem out_other {γ : Type} {B : ArS γ} {i j : Nat} (h : j ≠ i) : (B.out i).at_ j = B.at_ j := by rw [at_out, if_neg h]
theorem take_other {γ : Type} {B : ArS γ} (h : B.Ok) (x : γ) {j : Nat} (hj : (B.at_ j).isSome = true) : (B.take x).at_ j = B.at_ j := by
  rw [at_take h, if_neg]
  rintro rfl
  rw [(freshA h).1] at hj
  cases hj
theorem take_fresh {γ : Type} {B : ArS γ} (h : B.Ok) (x : γ) : (B.take x).at_ B.fresh = some x := by rw [at_take h, if_pos rfl]

/-- A fork is opened: both stand in its place. -/
theorem Has.opened {n : Nat} {l r : Tr α} (h : Has W A C (.fork n l r :: F)) : Has W (A.out n) C (l :: r :: F) := by
  have h1 := h.inn _ List.mem_cons_self
  have e1 := nsf_cons (.fork n l r) F
  have e2 := tsf_cons (.fork n l r) F
  have e3 : Nsf (l :: r :: F) = (l.ns ++ r.ns) ++ Nsf F := by rw [nsf_cons, nsf_cons, List.append_assoc]
  have e4 : Tsf (l :: r :: F) = (l.ts ++ r.ts) ++ Tsf F := by rw [tsf_cons, tsf_cons, List.append_assoc]
  simp only [Tr.ns, Tr.ts, List.cons_append] at e1 e2
  rw [← e3] at e1
  rw [← e4] at e2
  have hN := h.nN
  have hT := h.nT
  have hc := h.cN
  have hd := h.cT
  rw [e1] at hN hc
  rw [e2] at hT hd
  have hk : ∀ i ∈ Nsf (l :: r :: F), (A.out n).at_ i = A.at_ i := fun i hi => out_other (fun e => (List.nodup_cons.1 hN).1 (e ▸ hi))
  have hi2 : ∀ U ∈ l :: r :: F, U.In W A C := fun U hU => by
    rcases List.mem_cons.1 hU with rfl | hU
    · exact h1.2.2.2.1
    rcases List.mem_cons.1 hU with rfl | hU
    · exact h1.2.2.2.2
    · exact h.inn U (List.mem_cons_of_mem _ hU)
  refine ⟨fun U hU => (hi2 U hU).congr (fun i hi => hk i (mem_nsf hU hi)) (fun _ _ => rfl), (List.nodup_cons.1 hN).2, hT, ?_, hd⟩
  have := cnt_out h1.1
  rw [List.length_cons] at hc
  omega
/-- A leaf is dropped. -/
theorem Has.dropped {n t : Nat} {x : α} (h : Has W A C (.leaf n t x :: F)) : Has W (A.out n) (C.out t) F := by
  have h1 := h.inn _ List.mem_cons_self
  have e1 := nsf_cons (.leaf n t x) F
  have e2 := tsf_cons (.leaf n t x) F
  simp only [Tr.ns, Tr.ts, List.singleton_append] at e1 e2
  have hN := h.nN
  have hT := h.nT
  have hc := h.cN
  have hd := h.cT
  rw [e1] at hN hc
  rw [e2] at hT hd
  refine ⟨fun U hU => (h.inn U (List.mem_cons_of_mem _ hU)).congr (fun i hi => out_other (fun e => (List.nodup_cons.1 hN).1 (e ▸ mem_nsf hU hi))) (fun i hi => out_other (fun e => (List.nodup_cons.1 hT).1 (e ▸ mem_tsf hU hi))), (List.nodup_cons.1 hN).2, (List.nodup_cons.1 hT).2, ?_, ?_⟩
  · have := cnt_out h1.1
    rw [List.length_cons] at hc
    omega
  · have := cnt_out h1.2.1
    rw [List.length_cons] at hd
    omega
/-- A fork of both stands in their place. -/
theorem Has.forked {l r : Tr α} (h : Has W A C (l :: r :: F)) (hA : A.Ok) (hl : l ≠ .nil) (hr : r ≠ .nil) : Has W (A.take (Tr.nd W (.fork A.fresh l r))) C (.fork A.fresh l r :: F) := by
  have e1 := nsf_cons (.fork A.fresh l r) F
  have e2 := tsf_cons (.fork A.fresh l r) F
  have e3 : Nsf (l :: r :: F) = (l.ns ++ r.ns) ++ Nsf F := by rw [nsf_cons, nsf_cons, List.append_assoc]
  have e4 : Tsf (l :: r :: F) = (l.ts ++ r.ts) ++ Tsf F := by rw [tsf_cons, tsf_cons, List.append_assoc]
  simp only [Tr.ns, Tr.ts, List.cons_append] at e1 e2
  rw [← e3] at e1
  rw [← e4] at e2
  have hk : ∀ U ∈ l :: r :: F, U.In W (A.take (Tr.nd W (.fork A.fresh l r))) C := fun U hU => (h.inn U hU).congr (fun i hi => take_other hA _ (h.some_n (mem_nsf hU hi))) (fun _ _ => rfl)
  refine ⟨fun U hU => ?_, ?_, by rw [e2]; exact h.nT, ?_, by rw [e2]; exact h.cT⟩
  · rcases List.mem_cons.1 hU with rfl | hU
    · exact ⟨take_fresh hA _, hl, hr, hk l List.mem_cons_self, hk r (by simp)⟩
    · exact hk U (by simp [hU])
  · rw [e1]
    refine List.nodup_cons.2 ⟨fun hm => ?_, h.nN⟩
    have := h.some_n hm
    rw [(freshA hA).1] at this
    cases this
  · rw [e1, cnt_take hA, h.cN, List.length_cons]
/-- A new leaf. -/
theorem Has.leafed (h : Has W A C F) (hA : A.Ok) (hC : C.Ok) {x : α} (hx : 0 < (W.fl x).length) : Has W (A.take (Tr.nd W (.leaf A.fresh C.fresh x))) (C.take x) (.leaf A.fresh C.fresh x :: F) := by
  have e1 := nsf_cons (.leaf A.fresh C.fresh x) F
  have e2 := tsf_cons (.leaf A.fresh C.fresh x) F
  simp only [Tr.ns, Tr.ts, List.singleton_append] at e1 e2
  refine ⟨fun U hU => ?_, ?_, ?_, ?_, ?_⟩
  · rcases List.mem_cons.1 hU with rfl | hU
    · exact ⟨take_fresh hA _, take_fresh hC _, hx⟩
    · exact (h.inn U hU).congr (fun i hi => take_other hA _ (h.some_n (mem_nsf hU hi))) (fun i hi => take_other hC _ (h.some_t (mem_tsf hU hi)))
  · rw [e1]
    refine List.nodup_cons.2 ⟨fun hm => ?_, h.nN⟩
    have := h.some_n hm
    rw [(freshA hA).1] at this
    cases this
  · rw [e2]
    refine List.nodup_cons.2 ⟨fun hm => ?_, h.nT⟩
    have := h.some_t hm
    rw [(freshA hC).1] at this
    cases this
  · rw [e1, cnt_take hA, h.cN, List.length_cons]
  · rw [e2, cnt_take hC, h.cT, List.length_cons]
theorem has_new : Has W (newA : ArS Nd) (newA : ArS α) [] := ⟨fun T hT => (by cases hT), by simp [Nsf], by simp [Tsf], by simp [newA, cnt, Nsf], by simp [newA, cnt, Tsf]⟩
end
end Go.Proofs.Yteodfbkfpboehaa

/- TCN: the next place of an arena of rubric/tree.node -/
namespace Go.Proofs.Yteodfbkfpboehaa
open Go.RowKit
set_option linter.unusedVariables false

theorem pbuilt_N : Try.prog.built 131 [] = some (plT K_N none).toArray := by kernel_rfl
theorem psl_N : Try.prog.builtSlice 131 1 [(0, .agg (plT K_N none).toArray)] = some (plT K_N none).toArray := by kernel_rfl
set_option maxRecDepth 100000 in
theorem info_pl_N : ∃ i, Try.prog.info? 131 = some i ∧ i.zero = some (.agg (plT K_N none).toArray) ∧ i.size = 8 ∧ i.bytes = 64 := ⟨_, rfl, rfl, rfl, rfl⟩
set_option maxRecDepth 100000 in
theorem info_in_N : ∃ i, Try.prog.info? 3 = some i ∧ i.zero = some (.int .i64 0) ∧ i.size = 1 ∧ i.bytes = 8 := ⟨_, rfl, rfl, rfl, rfl⟩
section
variable {S : Nat → Prop} {ab st : Nat} {sv fv : Value} {ps : List (Option Nd)} {fr : List Nat}
set_option maxRecDepth 100000 in
set_option maxHeartbeats 1000000 in
/-- next, where no place is free. -/
theorem next_new_N (w : World) (h : AtM K_N S ab st sv fv ps [] w) (hl : ps.length ≤ 1000000) :
    Calls Try.prog 85 #[.pointer (some ⟨st, 0, none⟩)] w fun e w' => e = .returned (.int .i64 (ps.length : Nat)) ∧
      (∃ sv', AtM K_N (fun k => S k ∨ w.heap.size ≤ k) ab st sv' fv (ps ++ [none]) [] w') ∧ Off S w w' := by
  obtain ⟨i0, hi, hz0, hz1, hz2⟩ := info_pl_N
  obtain ⟨-, c2, c3⟩ := h.cells
  obtain ⟨fa, fc, rfl, -, -⟩ := own_shape h.hfv
  obtain ⟨sa, sc, rfl, -, -⟩ := own_shape h.hsv
  obtain ⟨PZ, hPZ⟩ : ∃ PZ, (plT K_N none).toArray = PZ := ⟨_, rfl⟩
  have HPB := Lib.hid pbuilt_N
  have HPS := Lib.hid psl_N
  rw [hPZ] at HPB HPS hz0
  have hbA := (Below.refl w.heap.size w).alloc (Nat.le_refl _) (.cells PZ 131)
  have M0 := Lib.hid ((h.below hbA).mono (S' := fun k => S k ∨ w.heap.size ≤ k) (fun k hk => .inl hk))
  have O0 := Lib.hid (Off.of_below (S := fun k => S k ∨ w.heap.size ≤ k) hbA)
  have HN := Lib.hid (heap_alloc_new w (.cells PZ 131))
  have e4 : fl (plTC K_N) (ps ++ [none]) = fl (plTC K_N) ps ++ PZ.toList := by rw [fl_app, fl_one, ← hPZ]; rfl
  have HE := Lib.hid e4
  have HL : Hid (PZ.toList.length = 8) := Lib.hid (by rw [← hPZ]; exact plT_len K_N none)
  have H1 : Hid (∀ v ∈ PZ.toList, v.oneCell' = true) := Lib.hid (by rw [← hPZ]; exact plT_one K_N none)
  have HZC : Hid ((Value.agg PZ).cells.size = 8) := Lib.hid (by have := HL.out; simpa [Value.cells] using this)
  clear h hbA e4 hPZ
  have hfl : decide ((0 : Int) - 1 < 0) = true := by decide
  go_enter Try.func85, Try.ntmps85
  go_wp2_with (first
    | (refine wpList_buildL rfl 131 _ rfl _ rfl [] rfl PZ HPB.out ?_)
    | (refine wpList_buildSliceL rfl 133 131 1 _ rfl w.heap.size rfl _ rfl Try.underlying133 [(0, .agg PZ)] rfl PZ HPS.out ?_)
    | (at_builtin; refine wpList_append_lies _ rfl (.tmp 17) (.tmp 19) 133 rfl 0 131 i0 (.agg PZ) 8 64 Try.underlying133 hi hz0 hz1 hz2 HZC.out (by decide) (.slice sa ps.length sc) ps.length (fl (plTC K_N) ps) rfl M0.out.hsv ⟨w.heap.size, 0, none⟩ 1 1 PZ.toList rfl HL.out (World.news_of_block HN.out) H1.out (by decide) (by unfold maxLen; omega) (by omega) (Nat.zero_le _) _ rfl ?_; intro g4 cap4 w4 ho4 hg4 ha4 hl4; refine Hid.out ?_))
  refine Lib.hid ?_
  have hst4 := farN hg4 M0.out.hst (fun g' hg' => by
    obtain ⟨cur, hc⟩ := own_tag M0.out.hsv hg'
    exact ⟨_, hc, fun e => by injection e with _ e _; exact K_N.nSP e.symm⟩)
  have c4 : w4.cell? ⟨st, 0, none⟩ = some (.slice sa ps.length sc) := by rw [cell_of_row w4 st 0 _ _ _ hst4]; rfl
  have f4 : w4.frozen? ⟨st, 0, none⟩ = false := by simp [World.frozen?, hst4]
  have c5 : (w4.setCell ⟨st, 0, none⟩ (.slice (some ⟨g4, 0, none⟩) (ps.length + 1) cap4)).cell? ⟨st, 0, none⟩ = some (.slice (some ⟨g4, 0, none⟩) (ps.length + 1) cap4) := World.cell?_setCell_same _ _ _ c4
  have l4 : (ps ++ [none]).length = ps.length + 1 := by simp
  have ho5 : w4.ownsRow 0 131 8 (.slice (some ⟨g4, 0, none⟩) (ps.length + 1) cap4) (ps ++ [none]).length (fl (plTC K_N) (ps ++ [none])) := by rw [HE.out, l4]; exact ho4
  have M5 := Lib.hid (M0.out.resets (ps' := ps ++ [none]) hg4 ho5 (fun g' hg' => by
    cases hg'
    rcases ha4 with e | e
    · exact M0.out.sSv _ e
    · right; have := O0.out.size; show w.heap.size ≤ g4; omega))
  have O5 := Lib.hid ((O0.out.seq (Off.of_grown hg4 (fun g' hg' => M0.out.sSv g' hg'))).seq (Off.of_grown (grown_set (w := w4) (g := st) (o := 0) (.slice (some ⟨g4, 0, none⟩) (ps.length + 1) cap4)) (fun g' hg' => by cases hg'; exact M0.out.sSt)))
  clear hg4 ha4 ho4 ho5 hst4 l4 c2 c3 HE HN M0 O0 HPB HPS HL H1 HZC
  go_wp2
  go_ret
  exact ⟨rfl, ⟨_, M5.out⟩, O5.out.cut⟩

set_option maxRecDepth 100000 in
set_option maxHeartbeats 1000000 in
/-- next, where one is. -/
theorem next_old_N (w : World) {i : Nat} {fr0 : List Nat} (h : AtM K_N S ab st sv fv ps (fr0 ++ [i]) w) (hl : fr0.length ≤ 1000000) :
    Calls Try.prog 85 #[.pointer (some ⟨st, 0, none⟩)] w fun e w' => e = .returned (.int .i64 (i : Nat)) ∧
      (∃ fv', AtM K_N (fun k => S k ∨ w.heap.size ≤ k) ab st sv fv' ps fr0 w') ∧ Off S w w' := by
  obtain ⟨-, c2, c3⟩ := h.cells
  have l0 : (fr0 ++ [i]).length = fr0.length + 1 := by simp
  have hfv := h.hfv
  obtain ⟨g, cap, rfl, -, hg⟩ := h.hfv.form (by omega)
  have hcap : fr0.length + 1 ≤ cap := by
    rcases hfv.2 with ⟨hn, _⟩ | ⟨g', cap', cur, hv, _, _, hc, _⟩
    · cases hn
    · injection hv with _ _ e; subst e; omega
  have ci : w.cell? ⟨g, fr0.length, none⟩ = some (.int .i64 (i : Nat)) := by
    have := hfv.cells (g := g) rfl fr0.length (.int .i64 (i : Nat)) (by simp)
    rw [Go.WideShapes.add_plain] at this
    simpa using this
  have fi := h.nofreeze 1
  have ho5 : w.ownsRow 0 3 1 (.slice (some ⟨g, 0, none⟩) fr0.length cap) fr0.length (fr0.map fun i => Value.int .i64 (i : Nat)) := by
    refine ⟨by simp, ?_⟩
    rcases hfv.2 with ⟨hn, _⟩ | ⟨g', cap', cur, hv, hb, hh, hc, hm, hs, ht⟩
    · cases hn
    · injection hv with e1 e2 e3
      subst e3
      injection e1 with e1
      injection e1 with e1
      subst e1
      refine .inr ⟨g, cap, cur, rfl, hb, hh, by omega, hm, hs, ?_⟩
      rw [Nat.mul_one]
      rw [Nat.mul_one, l0] at ht
      have : (cur.toList.take (fr0.length + 1)).take fr0.length = ((fr0 ++ [i]).map fun i => Value.int .i64 (i : Nat)).take fr0.length := by rw [ht]
      rw [List.take_take, Nat.min_eq_left (by omega)] at this
      rw [this]
      simp
  have M5 := Lib.hid ((h.mono (S' := fun k => S k ∨ w.heap.size ≤ k) (fun k hk => .inl hk)).refree (w1 := w) ⟨rfl, rfl, rfl, Nat.le_refl _, fun _ _ _ => rfl⟩ ho5 (fun g' hg' => .inl (h.sFv g' hg')))
  have O5 := Lib.hid (Off.of_grown (S := S) (grown_set (w := w) (g := st) (o := 1) (.slice (some ⟨g, 0, none⟩) fr0.length cap)) (fun g' hg' => by cases hg'; exact h.sSt))
  rw [l0] at c3
  clear h hfv ho5 l0
  go_enter Try.func85, Try.ntmps85
  go_wp2
  go_ret
  exact ⟨rfl, ⟨_, M5.out⟩, O5.out⟩
/-- next, whether a place is free or none is. -/
theorem next_any_N (A : ArS Nd) (x : Nd) (w : World) (h : AtM K_N S ab st sv fv A.ps A.free w) (hl : A.ps.length ≤ 1000000) (hl2 : A.free.length ≤ 1000000) (hok : A.Ok) :
    Calls Try.prog 85 #[.pointer (some ⟨st, 0, none⟩)] w fun e w' => e = .returned (.int .i64 (A.fresh : Nat)) ∧ Off S w w' ∧
      ∃ sv' fv' ps', AtM K_N (fun k => S k ∨ w.heap.size ≤ k) ab st sv' fv' ps' (A.take x).free w' ∧ A.fresh < ps'.length ∧ ps'.length ≤ 1000001 ∧ ps'[A.fresh]? = some none ∧ ps'.set A.fresh (some x) = (A.take x).ps := by
  have hfr := hok.freeB
  have ha := freshA hok
  unfold ArS.take ArS.fresh
  unfold ArS.fresh at ha
  cases hf : A.free.getLast? with
  | some i =>
    obtain ⟨f0, e⟩ := List.getLast?_eq_some_iff.1 hf
    obtain ⟨b1, b2⟩ := hfr i (List.mem_of_getLast? hf)
    rw [e] at h hl2
    simp at hl2
    refine (next_old_N w h (by omega)).mono fun e1 w1 ⟨q1, ⟨fv', q2⟩, q3⟩ => ⟨q1, q3, sv, fv', A.ps, ?_, b1, by omega, ?_, rfl⟩
    · have e2 : A.free.dropLast = f0 := by rw [e, List.dropLast_concat]
      show AtM K_N _ ab st sv fv' A.ps A.free.dropLast w1
      rw [e2]; exact q2
    · rw [at_get b1, b2]
  | none =>
    have e : A.free = [] := by simpa using hf
    rw [e] at h
    refine (next_new_N w h hl).mono fun e1 w1 ⟨q1, ⟨sv', q2⟩, q3⟩ => ⟨q1, q3, sv', fv, A.ps ++ [none], ?_, by simp, by simp; omega, by simp, by simp⟩
    show AtM K_N _ ab st sv' fv (A.ps ++ [none]) A.free w1
    rw [e]; exact q2
end
end Go.Proofs.Yteodfbkfpboehaa

/- TDN: Take, Free, New of an arena of rubric/tree.node -/
namespace Go.Proofs.Yteodfbkfpboehaa
open Go.RowKit
set_option linter.unusedVariables false

theorem pset_N (x : Nd) : Try.prog.built 131 [(0, .bool true), (1, .agg (K_N.c x).toArray)] = some (plT K_N (some x)).toArray := by
  obtain ⟨i, hi, hz, -, -⟩ := info_pl_N
  exact built_two _ i hi _ Try.underlying131 (.bool false) K_N.zc hz 7 (by kernel_rfl) K_N.lenZ true (K_N.c x) (K_N.len x)
section
variable {S : Nat → Prop} {ab st : Nat} {sv fv : Value} {ps : List (Option Nd)} {fr : List Nat}
set_option maxRecDepth 100000 in
set_option maxHeartbeats 1000000 in
theorem takeM_N (A : ArS Nd) (x : Nd) (w : World) (h : AtM K_N S ab st sv fv A.ps A.free w) (hl : A.ps.length ≤ 1000000) (hl2 : A.free.length ≤ 1000000) (hok : A.Ok) (hlt : ∀ k, S k → k < w.heap.size) :
    Calls Try.prog 80 #[.pointer (some ⟨ab, 0, none⟩), .agg (K_N.c x).toArray] w fun e w' => e = .returned (.int .i64 (A.fresh : Nat)) ∧ Off S w w' ∧
      ∃ sv' fv', AtM K_N (fun k => S k ∨ w.heap.size ≤ k) ab st sv' fv' (A.take x).ps (A.take x).free w' := by
  obtain ⟨cx, hcx⟩ : ∃ cx, (K_N.c x).toArray = cx := ⟨_, rfl⟩
  have HPS := Lib.hid (pset_N x)
  have HCS := Lib.hid (csize_N x)
  rw [hcx] at HPS HCS ⊢
  have hbA := (Below.refl w.heap.size w).alloc (Nat.le_refl _) (.cells cx 102)
  have hA := h.below hbA
  obtain ⟨c0, -, -⟩ := hA.cells
  have hn := next_any_N A x _ hA hl hl2 hok
  have HX := Lib.hid (heap_alloc_new w (.cells cx 102))
  have HO := Lib.hid hbA
  have HNS : Hid (¬ S w.heap.size) := Lib.hid (fun hh => by have := hlt _ hh; omega)
  obtain ⟨i, hi⟩ : ∃ i, A.fresh = i := ⟨_, rfl⟩
  rw [hi] at hn ⊢
  have HN := Lib.hid hn
  clear h hl hl2 hok hn hi hlt hbA hA
  go_enter Try.func80, Try.ntmps80
  go_wp2_with (go_at_call 85; refine HN.out.mono ?_; rintro e w1 ⟨rfl, hO, sv1, fv1, ps1, hM, hlt, hle, hno, hps⟩; refine Hid.out ?_)
  obtain ⟨g, cap, rfl, -, hcap⟩ := hM.form (by omega)
  have hM' := hM.below (below_drew w1)
  obtain ⟨d0, d1, -⟩ := hM'.cells
  have HX1 : Hid (w1.drew.heap[w.heap.size]? = some (.cells cx 102 (0, 0))) := Lib.hid ((hO.block w.heap.size (lt_of_heap HX.out) HNS.out).trans HX.out)
  have HT := Lib.hid (hM'.there hno)
  have k0 : (0 : Int) ≤ (i : Int) := by omega
  have k1 : (i : Int) < (ps1.length : Int) := by omega
  have M2 := Lib.hid (hM'.putA hlt (some x))
  have O2 := Lib.hid ((((Off.of_below HO.out).seq (hO.mono (S' := fun k => S k ∨ w.heap.size ≤ k) (fun k hk => .inl hk))).seq (Off.of_below (S := fun k => S k ∨ w.heap.size ≤ k) (below_drew w1))).seq (Off.of_grown (grown_sets g (plT K_N (some x)) (i * 8) w1.drew) (fun g' hg' => by
    cases hg'
    rcases hM.sSv _ rfl with hh | hh
    · exact .inl hh
    · have hh' : (w.alloc (.cells cx 102)).heap.size ≤ g := hh
      exact .inr (by have := HO.out.size; show w.heap.size ≤ g; omega))))
  have M2 : Hid (AtM K_N (fun k => S k ∨ w.heap.size ≤ k) ab st (.slice (some ⟨g, 0, none⟩) ps1.length cap) fv1 (ps1.set i (some x)) (A.take x).free (w1.drew.setCells g (i * 8) (plT K_N (some x)))) :=
    Lib.hid (M2.out.mono (fun k hk => by rcases hk with hk | hk; exact .inl hk; exact .inr (by have := HO.out.size; omega)))
  have HP := Lib.hid hps
  have hgx : g ≠ w.heap.size := fun e => by
    obtain ⟨cur, hc⟩ := own_tag hM'.hsv (g := g) rfl
    rw [e, HX1.out] at hc
    injection hc with hc
    injection hc with _ hc _
    exact absurd hc (by decide)
  have K3 := Lib.hid (show (w1.drew.setCells g (i * 8) (plT K_N (some x))).cell? ⟨ab, 0, none⟩ = some (.pointer (some ⟨st, 0, none⟩)) ∧ (w1.drew.setCells g (i * 8) (plT K_N (some x))).cell? ⟨st, 0, none⟩ = some (.slice (some ⟨g, 0, none⟩) ps1.length cap) ∧ (w1.drew.setCells g (i * 8) (plT K_N (some x))).heap[w.heap.size]? = some (.cells cx 102 (0, 0)) from
    ⟨M2.out.cells.1, M2.out.cells.2.1, ((grown_sets g (plT K_N (some x)) (i * 8) w1.drew).block _ (lt_of_heap HX1.out) (fun e => hgx (by injection e with e; exact e.symm))).trans HX1.out⟩)
  obtain ⟨PX, hPX⟩ : ∃ PX, plT K_N (some x) = PX := ⟨_, rfl⟩
  have HL : Hid (PX.toArray.size = 8) := Lib.hid (by rw [List.size_toArray, ← hPX]; exact plT_len K_N (some x))
  have H1 : Hid (PX.toArray.all (·.oneCell') = true) := Lib.hid (by rw [← hPX]; exact all_oneCell_toArray (plT_one K_N (some x)))
  have HT : Hid (w1.drew.there g (i * 8) PX.toArray.size) := Lib.hid (by rw [HL.out]; exact HT.out)
  rw [hPX] at HPS M2 O2 K3
  clear hM hM' hO hps hno HN hcx hPX hle hcap
  refine Lib.hid ?_
  refine Hid.out ?_
  refine Lib.hid ?_
  go_wp2_with fail
  refine h_start (S := fun W => W.cell? ⟨ab, 0, none⟩ = some (.pointer (some ⟨st, 0, none⟩)) ∧ W.cell? ⟨st, 0, none⟩ = some (.slice (some ⟨g, 0, none⟩) ps1.length cap) ∧ W.heap[w.heap.size]? = some (.cells cx 102 (0, 0))) (by kernel_rfl) ?_
  have K0 := Lib.hid (show w1.drew.cell? ⟨ab, 0, none⟩ = some (.pointer (some ⟨st, 0, none⟩)) ∧ w1.drew.cell? ⟨st, 0, none⟩ = some (.slice (some ⟨g, 0, none⟩) ps1.length cap) ∧ w1.drew.heap[w.heap.size]? = some (.cells cx 102 (0, 0)) from ⟨d0, d1, HX1.out⟩)
  refine h_val (i := 0) (v := .pointer (some ⟨ab, 0, none⟩)) rfl (by kernel_rfl) (by kernel_rfl) (by kernel_rfl) (fun _ _ _ h => h) (by rfl) (fun w hS => ?_) K0.out ?_
  · obtain ⟨q0, q1, q2⟩ := hS
    go_simp
  go_frame
  refine h_val (i := 1) (v := .pointer (some ⟨ab, 0, none⟩)) rfl (by kernel_rfl) (by kernel_rfl) (by kernel_rfl) (fun _ _ _ h => h) (by rfl) (fun w hS => ?_) K0.out ?_
  · obtain ⟨q0, q1, q2⟩ := hS
    go_simp
  go_frame
  refine h_val (i := 2) (v := .pointer (some ⟨ab, 0, none⟩)) rfl (by kernel_rfl) (by kernel_rfl) (by kernel_rfl) (fun _ _ _ h => h) (by rfl) (fun w hS => ?_) K0.out ?_
  · obtain ⟨q0, q1, q2⟩ := hS
    go_simp
  go_frame
  refine h_val (i := 3) (v := .pointer (some ⟨st, 0, none⟩)) rfl (by kernel_rfl) (by kernel_rfl) (by kernel_rfl) (fun _ _ _ h => h) (by rfl) (fun w hS => ?_) K0.out ?_
  · obtain ⟨q0, q1, q2⟩ := hS
    go_simp
  go_frame
  refine h_val (i := 4) (v := .pointer (some ⟨st, 0, none⟩)) rfl (by kernel_rfl) (by kernel_rfl) (by kernel_rfl) (fun _ _ _ h => h) (by rfl) (fun w hS => ?_) K0.out ?_
  · obtain ⟨q0, q1, q2⟩ := hS
    go_simp
  go_frame
  refine h_val (i := 5) (v := .pointer (some ⟨st, 0, none⟩)) rfl (by kernel_rfl) (by kernel_rfl) (by kernel_rfl) (fun _ _ _ h => h) (by rfl) (fun w hS => ?_) K0.out ?_
  · obtain ⟨q0, q1, q2⟩ := hS
    go_simp
  go_frame
  refine h_val (i := 6) (v := .slice (some ⟨g, 0, none⟩) ps1.length cap) rfl (by kernel_rfl) (by kernel_rfl) (by kernel_rfl) (fun _ _ _ h => h) (by rfl) (fun w hS => ?_) K0.out ?_
  · obtain ⟨q0, q1, q2⟩ := hS
    go_simp
  go_frame
  refine h_val (i := 7) (v := .int .i64 (i : Nat)) rfl (by kernel_rfl) (by kernel_rfl) (by kernel_rfl) (fun _ _ _ h => h) (by rfl) (fun w hS => ?_) K0.out ?_
  · obtain ⟨q0, q1, q2⟩ := hS
    go_simp
  go_frame
  refine h_val (i := 8) (v := .agg cx) rfl (by kernel_rfl) (by kernel_rfl) (by kernel_rfl) (fun _ _ _ h => h) (by rfl) (fun w hS => ?_) K0.out ?_
  · obtain ⟨q0, q1, q2⟩ := hS
    exact x_load 102 (.tmp 3) rfl _ rfl _ _ _ _ q2 Try.underlying102 rfl (ainfo_N _ HCS.out)
  go_frame
  refine h_val (i := 9) (v := .agg PX.toArray) rfl (by kernel_rfl) (by kernel_rfl) (by kernel_rfl) (fun _ _ _ h => h) (by rfl) (fun w hS => ?_) K0.out ?_
  · obtain ⟨q0, q1, q2⟩ := hS
    exact x_buildL 131 _ rfl [(0, .bool true), (1, .agg cx)] rfl PX.toArray HPS.out
  go_frame
  refine h_val (i := 10) (v := .pointer (some ⟨g, i * 8, none⟩)) rfl (by kernel_rfl) (by kernel_rfl) (by kernel_rfl) (fun _ _ _ h => h) (by rfl) (fun w hS => ?_) K0.out ?_
  · obtain ⟨q0, q1, q2⟩ := hS
    go_simp
  go_frame
  refine h_step (i := 11) rfl (by kernel_rfl) (by rfl) (fun K hK => ?_)
  refine wp_store_mid 131 (.tmp 33) (.tmp 32) rfl g (i * 8) PX.toArray rfl rfl HT.out (pinfo_N _ HL.out) H1.out ?_
  refine hK _ _ K3.out ?_
  go_frame
  refine h_done (by kernel_rfl) ?_
  go_wp2
  go_ret
  exact ⟨rfl, O2.out.cut, _, _, by rw [← HP.out]; exact M2.out⟩

set_option maxRecDepth 100000 in
set_option maxHeartbeats 2000000 in
theorem freeM_N (w : World) {g cap k : Nat} {x : Nd} (h : AtM K_N S ab st (.slice (some ⟨g, 0, none⟩) ps.length cap) fv ps fr w) (hk : ps[k]? = some (some x)) (hl : ps.length ≤ 1000000) (hl2 : fr.length ≤ 1000000) :
    Calls Try.prog 65 #[.pointer (some ⟨ab, 0, none⟩), .int .i64 (k : Nat)] w fun e w' => e = .returned (.int .i64 0) ∧ Off S w w' ∧
      ∃ fv', AtM K_N (fun k => S k ∨ w.heap.size ≤ k) ab st (.slice (some ⟨g, 0, none⟩) ps.length cap) fv' (ps.set k none) (fr ++ [k]) w' := by
  obtain ⟨i0, hi, hz0, hz1, hz2⟩ := info_in_N
  have HF := Lib.hid (find_yes_N w h hk)
  have hlt := (List.getElem?_eq_some_iff.1 hk).1
  obtain ⟨PZ, hPZ⟩ : ∃ PZ, plT K_N none = PZ := ⟨_, rfl⟩
  have HPB := Lib.hid pbuilt_N
  have HL : Hid (PZ.toArray.size = 8) := Lib.hid (by rw [List.size_toArray, ← hPZ]; exact plT_len K_N none)
  have H1 : Hid (PZ.toArray.all (·.oneCell') = true) := Lib.hid (by rw [← hPZ]; exact all_oneCell_toArray (plT_one K_N none))
  have HT : Hid (w.there g (k * 8) PZ.toArray.size) := Lib.hid (by rw [HL.out]; exact h.there hk)
  have hM2 : AtM K_N (fun k => S k ∨ w.heap.size ≤ k) ab st (.slice (some ⟨g, 0, none⟩) ps.length cap) fv (ps.set k none) fr (w.setCells g (k * 8) (plT K_N none)) := (h.putA hlt none).mono (S' := fun k => S k ∨ w.heap.size ≤ k) (fun k hk => .inl hk)
  have O2 := Lib.hid (Off.of_grown (S := fun k => S k ∨ w.heap.size ≤ k) (grown_sets g (plT K_N none) (k * 8) w) (fun g' hg' => by cases hg'; exact .inl (h.sSv _ rfl)))
  rw [hPZ] at hM2 O2 HPB
  obtain ⟨fa, fc, rfl, -, -⟩ := own_shape h.hfv
  clear h hk hPZ
  go_enter Try.func65, Try.ntmps65
  go_wp2_with (first
    | (go_at_call 82; refine HF.out.mono ?_; rintro e w1 ⟨rfl, rfl⟩)
    | (refine wpList_buildL rfl 131 _ rfl _ rfl [] rfl PZ.toArray HPB.out ?_)
    | (refine wpList_store_mid rfl 131 (.tmp 18) (.tmp 17) rfl g (k * 8) PZ.toArray rfl rfl HT.out (pinfo_N _ HL.out) H1.out ?_))
  have eL : PZ.toArray.toList = PZ := rfl
  try rw [eL]
  generalize w1.setCells g (k * 8) PZ = W at *
  have hbA : Below W.heap.size W (W.alloc (.cells #[.int .i64 (k : Nat)] 3)).drew := ((Below.refl _ _).alloc (Nat.le_refl _) _).drew
  obtain ⟨c0, -, c1⟩ := (hM2.below (Below.refl _ W).drew).cells
  obtain ⟨c2, -, c3⟩ := (hM2.below hbA).cells
  have M3 := Lib.hid (hM2.below hbA)
  have O3 := Lib.hid (O2.out.seq (Off.of_below hbA))
  have HW := Lib.hid (fun (w4 : World) (hG : (W.alloc (.cells #[.int .i64 (k : Nat)] 3)).drew.grownBy w4 (Value.slice fa fr.length fc).ownBlock) => (show w4.cell? ⟨ab, 0, none⟩ = some (.pointer (some ⟨st, 0, none⟩)) ∧ w4.cell? ⟨st, 1, none⟩ = some (.slice fa fr.length fc) ∧ w4.frozen? ⟨st, 1, none⟩ = false from by
    have hst4 := farN hG (hM2.below hbA).hst (fun g' hg' => by
      obtain ⟨cur, hc⟩ := own_tag (hM2.below hbA).hfv hg'
      exact ⟨_, hc, fun e => by injection e with _ e _; exact K_N.nSI e.symm⟩)
    have hab4 := farN hG (hM2.below hbA).hab (fun g' hg' => by
      obtain ⟨cur, hc⟩ := own_tag (hM2.below hbA).hfv hg'
      exact ⟨_, hc, fun e => by injection e with _ e _; exact K_N.nAI e.symm⟩)
    exact ⟨by rw [cell_of_row w4 ab 0 _ _ _ hab4]; rfl, by rw [cell_of_row w4 st 1 _ _ _ hst4]; rfl, by simp [World.frozen?, hst4]⟩))
  have HSZ := Lib.hid (show w1.heap.size ≤ W.heap.size from O2.out.size)
  have FIN := Lib.hid (fun (g4 cap4 : Nat) (w4 : World) (ho : w4.ownsRow 0 3 1 (.slice (some ⟨g4, 0, none⟩) (fr.length + 1) cap4) (fr.length + 1) (fr.map (fun i => Value.int .i64 (i : Nat)) ++ [.int .i64 (k : Nat)])) (hG : (W.alloc (.cells #[.int .i64 (k : Nat)] 3)).drew.grownBy w4 (Value.slice fa fr.length fc).ownBlock) (ha : (Value.slice fa fr.length fc).ownBlock = some g4 ∨ g4 = W.heap.size + 1) => (show Off S w1 (w4.setCell ⟨st, 1, none⟩ (.slice (some ⟨g4, 0, none⟩) (fr.length + 1) cap4)) ∧ ∃ fv', AtM K_N (fun k => S k ∨ w1.heap.size ≤ k) ab st (.slice (some ⟨g, 0, none⟩) ps.length cap) fv' (ps.set k none) (fr ++ [k]) (w4.setCell ⟨st, 1, none⟩ (.slice (some ⟨g4, 0, none⟩) (fr.length + 1) cap4)) from by
    have e4 : (fr ++ [k]).map (fun i => Value.int .i64 (i : Nat)) = fr.map (fun i => Value.int .i64 (i : Nat)) ++ [.int .i64 (k : Nat)] := by simp
    have l4 : (fr ++ [k]).length = fr.length + 1 := by simp
    rw [← e4, ← l4] at ho
    rw [l4] at ho
    have ho' : w4.ownsRow 0 3 1 (.slice (some ⟨g4, 0, none⟩) (fr.length + 1) cap4) (fr ++ [k]).length ((fr ++ [k]).map fun i => Value.int .i64 (i : Nat)) := by rw [l4]; exact ho
    refine ⟨((O3.out.seq (Off.of_grown hG (fun g' hg' => M3.out.sFv g' hg'))).seq (Off.of_grown (grown_set (w := w4) (g := st) (o := 1) _) (fun g' hg' => by cases hg'; exact M3.out.sSt))).cut, _, M3.out.refree hG ho' (fun g' hg' => ?_)⟩
    cases hg'
    rcases ha with e | e
    · exact M3.out.sFv _ e
    · right; have := HSZ.out; show w1.heap.size ≤ g4; omega))
  clear hM2 hbA O2 hlt HF HL H1 HT HPB
  go_region_law
    ((refine step_append_lies _ (by rfl) (.tmp 29) (.tmp 31) 132 (by rfl) 0 3 i0 (.int .i64 0) 1 8 Try.underlying132 hi hz0 hz1 hz2 (by rfl) (by decide) (.slice fa fr.length fc) fr.length (fr.map fun i => Value.int .i64 (i : Nat)) (by rfl) M3.out.hfv ⟨W.heap.size, 0, none⟩ 1 1 [.int .i64 (k : Nat)] (by rfl) (by rfl) (World.news_of_block (heap_alloc_new _ _)) (by simp [Value.oneCell']) (by decide) (by unfold maxLen; omega) (by omega) (by simp) _ rfl ?_; intro g4 cap4 w4 hown4 hgrow4 hat4 hlt4; obtain ⟨q0, q1, q2⟩ := HW.out w4 hgrow4))
  all_goals (go_wp2; go_ret; refine ⟨rfl, ?_⟩; exact FIN.out g4 cap4 w4 hown4 hgrow4 (by simpa using hat4))

theorem free_no_N (A : ArS Nd) (i : Int) (w : World) (h : AtM K_N S ab st sv fv A.ps fr w) (hh : A.has i = false) :
    Calls Try.prog 65 #[.pointer (some ⟨ab, 0, none⟩), .int .i64 i] w fun e w' => e = .returned (.int .i64 5) ∧ w' = w := by
  have HF := Lib.hid (find_no_N A i w h hh)
  clear h hh
  go_enter Try.func65, Try.ntmps65
  go_wp2_with (go_at_call 82; refine HF.out.mono ?_; rintro e w1 ⟨rfl, rfl⟩)
  go_ret
  exact ⟨rfl, rfl⟩

/-- An arena at block ab, in blocks of S. -/
def At_N (S : Nat → Prop) (ab : Nat) (A : ArS Nd) (w : World) : Prop := (∃ st sv fv, AtM K_N S ab st sv fv A.ps A.free w) ∧ A.Ok ∧ A.ps.length ≤ 1000000
variable {A : ArS Nd} {w w' : World}
theorem At_N.kept (h : At_N S ab A w) (hk : ∀ k, k < w.heap.size → S k → w'.heap[k]? = w.heap[k]?) : At_N S ab A w' := by
  obtain ⟨⟨st, sv, fv, h⟩, h2, h3⟩ := h
  exact ⟨⟨st, sv, fv, h.kept hk⟩, h2, h3⟩
theorem At_N.below (h : At_N S ab A w) (hb : Below w.heap.size w w') : At_N S ab A w' := h.kept (fun k hk _ => hb.block k hk)
theorem At_N.off {U : Nat → Prop} (h : At_N S ab A w) (ho : Off U w w') (hd : ∀ k, S k → ¬ U k) : At_N S ab A w' := h.kept (fun k hk hS => ho.block k hk (hd k hS))
theorem At_N.mono (h : At_N S ab A w) {S' : Nat → Prop} (hS : ∀ k, S k → S' k) : At_N S' ab A w := by
  obtain ⟨⟨st, sv, fv, h⟩, h2, h3⟩ := h
  exact ⟨⟨st, sv, fv, h.mono hS⟩, h2, h3⟩
theorem At_N.cutS (h : At_N S ab A w) : At_N (fun k => S k ∧ k < w.heap.size) ab A w := by
  obtain ⟨⟨st, sv, fv, h⟩, h2, h3⟩ := h
  exact ⟨⟨st, sv, fv, h.cutS⟩, h2, h3⟩
theorem At_N.ok (h : At_N S ab A w) : A.Ok := h.2.1
theorem At_N.lt (h : At_N S ab A w) : ab < w.heap.size := by obtain ⟨⟨st, sv, fv, h⟩, h2, h3⟩ := h; exact lt_of_heap h.hab
theorem At_N.mem (h : At_N S ab A w) : S ab := by obtain ⟨⟨st, sv, fv, h⟩, h2, h3⟩ := h; exact h.sA
theorem free_len_N (h : A.Ok) (h3 : A.ps.length ≤ 1000000) : A.free.length ≤ 1000000 := by have := h.cnt; omega
/-- Take. -/
theorem take_N (x : Nd) (h : At_N S ab A w) (hn : cnt A.ps < 1000000) (hlt : ∀ k, S k → k < w.heap.size) :
    Calls Try.prog 80 #[.pointer (some ⟨ab, 0, none⟩), .agg (K_N.c x).toArray] w fun e w' => e = .returned (.int .i64 (A.fresh : Nat)) ∧ At_N (fun k => S k ∨ w.heap.size ≤ k) ab (A.take x) w' ∧ Off S w w' := by
  obtain ⟨⟨st, sv, fv, h⟩, h2, h3⟩ := h
  refine (takeM_N A x w h h3 (free_len_N h2 h3) h2 hlt).mono fun e w' ⟨q1, q2, sv', fv', q3⟩ => ⟨q1, ⟨⟨_, _, _, q3⟩, ok_take h2 x, ?_⟩, q2⟩
  have hc := h2.cnt
  unfold ArS.take
  cases hf : A.free.getLast? with
  | some i => simpa using h3
  | none =>
    have e : A.free = [] := by simpa using hf
    rw [e] at hc
    simp at hc ⊢
    omega
theorem free_yes_N {k : Nat} {x : Nd} (h : At_N S ab A w) (hx : A.at_ k = some x) :
    Calls Try.prog 65 #[.pointer (some ⟨ab, 0, none⟩), .int .i64 (k : Nat)] w fun e w' => e = .returned (.int .i64 0) ∧ At_N (fun k => S k ∨ w.heap.size ≤ k) ab (A.out k) w' ∧ Off S w w' := by
  obtain ⟨⟨st, sv, fv, h⟩, h2, h3⟩ := h
  have hlt := at_lt hx
  obtain ⟨g, cap, rfl, -, -⟩ := h.form (by omega)
  refine (freeM_N w h (by rw [at_get hlt, hx]) h3 (free_len_N h2 h3)).mono fun e w' ⟨q1, q2, fv', q3⟩ => ⟨q1, ⟨⟨st, .slice (some ⟨g, 0, none⟩) A.ps.length cap, fv', ?_⟩, ok_out h2 hx, ?_⟩, q2⟩
  · exact q3
  · show (A.ps.set k none).length ≤ _
    rw [List.length_set]; exact h3
theorem free_not_N {i : Int} (h : At_N S ab A w) (hx : A.has i = false) :
    Calls Try.prog 65 #[.pointer (some ⟨ab, 0, none⟩), .int .i64 i] w fun e w' => e = .returned (.int .i64 5) ∧ w' = w := by
  obtain ⟨⟨st, sv, fv, h⟩, h2, h3⟩ := h
  exact free_no_N A i w h hx
theorem ats_N {k : Nat} {x : Nd} (h : At_N S ab A w) (hx : A.at_ k = some x) :
    Calls Try.prog 63 #[.pointer (some ⟨ab, 0, none⟩), .int .i64 (k : Nat)] w fun e w' => e = .returned (.tuple #[.agg (K_N.c x).toArray, .int .i64 0]) ∧ Below w.heap.size w w' := by
  obtain ⟨⟨st, sv, fv, h⟩, h2, h3⟩ := h
  have hlt := at_lt hx
  obtain ⟨g, cap, rfl, -, -⟩ := h.form (by omega)
  exact at_yes_N w h (by rw [at_get hlt, hx])
theorem at_not_N {i : Int} (h : At_N S ab A w) (hx : A.has i = false) :
    Calls Try.prog 63 #[.pointer (some ⟨ab, 0, none⟩), .int .i64 i] w fun e w' => e = .returned (.tuple #[.agg K_N.zc.toArray, .int .i64 5]) ∧ Below w.heap.size w w' := by
  obtain ⟨⟨st, sv, fv, h⟩, h2, h3⟩ := h
  exact at_no_N A i w h hx
theorem new_N (w : World) :
    Calls Try.prog 75 #[] w fun e w' => ∃ ab, e = .returned (.pointer (some ⟨ab, 0, none⟩)) ∧ At_N (fun k => w.heap.size ≤ k ∧ k < w'.heap.size) ab newA w' ∧ Below w.heap.size w w' ∧ w'.heap.size = w.heap.size + 2 := by
  have hb1 := (Below.refl w.heap.size w).alloc (Nat.le_refl _) (.cells #[.slice none 0 0, .slice none 0 0] 135)
  have hb2 := hb1.alloc (by simp) (.cells #[.pointer (some ⟨w.heap.size, 0, none⟩)] 138)
  have h1 : ((w.alloc (.cells #[.slice none 0 0, .slice none 0 0] 135)).alloc (.cells #[.pointer (some ⟨w.heap.size, 0, none⟩)] 138)).heap[w.heap.size]? = some (.cells #[.slice none 0 0, .slice none 0 0] 135) := by
    rw [Below.heap_alloc _ _ _ (by simp)]; exact heap_alloc_new w _
  have h2 : ((w.alloc (.cells #[.slice none 0 0, .slice none 0 0] 135)).alloc (.cells #[.pointer (some ⟨w.heap.size, 0, none⟩)] 138)).heap[w.heap.size + 1]? = some (.cells #[.pointer (some ⟨w.heap.size, 0, none⟩)] 138) := by
    have := heap_alloc_new (w.alloc (.cells #[.slice none 0 0, .slice none 0 0] 135)) (.cells #[.pointer (some ⟨w.heap.size, 0, none⟩)] 138)
    simpa using this
  have HA := Lib.hid (show At_N (fun k => w.heap.size ≤ k) (w.heap.size + 1) newA _ from ⟨⟨w.heap.size, .slice none 0 0, .slice none 0 0, ⟨h2, h1, own_nil _ _ _ _, own_nil _ _ _ _, Nat.le_succ _, Nat.le_refl _, fun g hg => by simp [Value.ownBlock] at hg, fun g hg => by simp [Value.ownBlock] at hg⟩⟩, ok_newA, by simp [newA]⟩)
  have HB := Lib.hid hb2
  clear h1 h2 hb1 hb2
  go_enter Try.func75, Try.ntmps75
  go_wp2
  go_ret
  exact ⟨_, rfl, HA.out.cutS, HB.out, by simp⟩
end
end Go.Proofs.Yteodfbkfpboehaa
