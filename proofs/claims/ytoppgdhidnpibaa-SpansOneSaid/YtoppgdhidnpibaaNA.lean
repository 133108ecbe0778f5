
import Derived.Test.YtoppgdhidnpibaaA1
import Derived.Deep.RegionHeld3
import Derived.Deep.RegionLaw
import Derived.Deep.Cut
/- NA: blocks apart; an arena as plain data, and in memory -/
namespace Go.Proofs.Ytoppgdhidnpibaa
open Go.RowKit
set_option linter.unusedVariables false

/-! ### blocks apart -/
theorem owns_kept {w w' : World} {base : Nat} {e : TypeId} {size : Nat} {v : Value} {n : Nat} {xs : List Value} (h : w.ownsRow base e size v n xs) (hk : ∀ g, v.ownBlock = some g → w'.heap[g]? = w.heap[g]?) : w'.ownsRow base e size v n xs := by
  refine ⟨h.1, ?_⟩
  rcases h.2 with hn | ⟨g, cap, cur, rfl, hB, hg, rest⟩
  · exact .inl hn
  · exact .inr ⟨g, cap, cur, rfl, hB, (hk g rfl).trans hg, rest⟩
theorem own_tag {w : World} {base : Nat} {e : TypeId} {size : Nat} {v : Value} {n : Nat} {xs : List Value} (h : w.ownsRow base e size v n xs) {g : Nat} (hg : v.ownBlock = some g) : ∃ cur, w.heap[g]? = some (.cells cur e (0, 0)) := by
  rcases h.2 with ⟨rfl, _⟩ | ⟨g', cap, cur, rfl, hB, hh, rest⟩
  · simp [Value.ownBlock] at hg
  · simp [Value.ownBlock] at hg; subst hg; exact ⟨cur, hh⟩
theorem own_lt7 {w : World} {base : Nat} {e : TypeId} {size : Nat} {v : Value} {n : Nat} {xs : List Value} (h : w.ownsRow base e size v n xs) {g : Nat} (hg : v.ownBlock = some g) : g < w.heap.size := by
  obtain ⟨cur, hc⟩ := own_tag h hg
  exact (Array.getElem?_eq_some_iff.1 hc).1
theorem lt_of_heap {w : World} {k : Nat} {o : Obj} (h : w.heap[k]? = some o) : k < w.heap.size := (Array.getElem?_eq_some_iff.1 h).1
/-- But for blocks of S, what lay there lies there. -/
structure Off (S : Nat → Prop) (w w' : World) : Prop where
  os : w'.os = w.os
  tape : w'.tape = w.tape
  output : w'.output = w.output
  size : w.heap.size ≤ w'.heap.size
  block : ∀ k, k < w.heap.size → ¬ S k → w'.heap[k]? = w.heap[k]?
theorem Off.refl (S : Nat → Prop) (w : World) : Off S w w := ⟨rfl, rfl, rfl, Nat.le_refl _, fun _ _ _ => rfl⟩
theorem Off.trans {S : Nat → Prop} {a b c : World} (h : Off S a b) (k : Off (fun i => S i ∨ a.heap.size ≤ i) b c) : Off S a c :=
  ⟨k.os.trans h.os, k.tape.trans h.tape, k.output.trans h.output, Nat.le_trans h.size k.size, fun i hi hS =>
    (k.block i (Nat.lt_of_lt_of_le hi h.size) (fun hh => by rcases hh with hh | hh; exact hS hh; omega)).trans (h.block i hi hS)⟩
theorem Off.seq {S : Nat → Prop} {a b c : World} (h : Off S a b) (k : Off S b c) : Off S a c :=
  ⟨k.os.trans h.os, k.tape.trans h.tape, k.output.trans h.output, Nat.le_trans h.size k.size, fun i hi hS => (k.block i (Nat.lt_of_lt_of_le hi h.size) hS).trans (h.block i hi hS)⟩
theorem Off.cut {S : Nat → Prop} {a b : World} (h : Off (fun k => S k ∨ a.heap.size ≤ k) a b) : Off S a b :=
  ⟨h.os, h.tape, h.output, h.size, fun k hk hn => h.block k hk (fun hh => by rcases hh with hh | hh; exact hn hh; omega)⟩
theorem Off.mono {S S' : Nat → Prop} {a b : World} (h : Off S a b) (hS : ∀ k, S k → S' k) : Off S' a b := ⟨h.os, h.tape, h.output, h.size, fun k hk hn => h.block k hk (fun hh => hn (hS k hh))⟩
theorem Off.of_below {S : Nat → Prop} {a b : World} (h : Below a.heap.size a b) : Off S a b := ⟨h.os, h.tape, h.output, h.size, fun k hk _ => h.block k hk⟩
theorem Off.of_grown {S : Nat → Prop} {a b : World} {row : Option Nat} (h : a.grownBy b row) (hr : ∀ g, row = some g → S g) : Off S a b :=
  ⟨h.os, h.tape, h.output, h.size, fun k hk hn => h.block k hk (fun e => hn (hr k e.symm))⟩
theorem Off.below {S : Nat → Prop} {a b : World} {B : Nat} (h : Off S a b) (hS : ∀ k, S k → B ≤ k) (hB : B ≤ a.heap.size) : Below B a b :=
  ⟨h.os, h.tape, h.output, h.size, fun k hk => h.block k (by omega) (fun hh => by have := hS k hh; omega)⟩
theorem far {w w' : World} {row : Option Nat} (hg : w.grownBy w' row) {k : Nat} {o : Obj} (hk : w.heap[k]? = some o) (hr : ∀ g, row = some g → ∃ o', w.heap[g]? = some o' ∧ o' ≠ o) : w'.heap[k]? = some o := by
  rw [hg.block k (Array.getElem?_eq_some_iff.1 hk).1]
  · exact hk
  · intro e
    obtain ⟨o', h1, h2⟩ := hr k e.symm
    rw [hk] at h1
    exact h2 (Option.some.inj h1).symm
theorem own_far {w w' : World} {row : Option Nat} {base : Nat} {e : TypeId} {size : Nat} {v : Value} {n : Nat} {xs : List Value} (hg : w.grownBy w' row) (h : w.ownsRow base e size v n xs) (hr : ∀ g, row = some g → ∃ o', w.heap[g]? = some o' ∧ ∀ c, o' ≠ .cells c e (0, 0)) : w'.ownsRow base e size v n xs := by
  refine owns_kept h fun g hgb => ?_
  obtain ⟨cur, hc⟩ := own_tag h hgb
  rw [hc]
  exact far hg hc (fun g' hg' => by obtain ⟨o', h1, h2⟩ := hr g' hg'; exact ⟨o', h1, h2 _⟩)
theorem grown_set {w : World} {g o : Nat} (u : Value) : w.grownBy (w.setCell ⟨g, o, none⟩ u) (some g) :=
  ⟨rfl, rfl, rfl, by simp [World.setCell], fun k _ hk => Below.heap_setCell _ _ _ _ (fun e => hk (by rw [e]))⟩
theorem heap_set {w : World} {g o : Nat} {c : Array Value} {e : TypeId} {fz : Nat × Nat} (u : Value) (h : w.heap[g]? = some (.cells c e fz)) : (w.setCell ⟨g, o, none⟩ u).heap[g]? = some (.cells (c.setIfInBounds o u) e fz) := by
  simp [World.setCell, Array.getElem?_modify, h]
theorem owns_set {w : World} {base : Nat} {e : TypeId} {size : Nat} {g cap n : Nat} {xs : List Value} (h : w.ownsRow base e size (.slice (some ⟨g, 0, none⟩) n cap) n xs) {j : Nat} (u : Value) :
    (w.setCell ⟨g, j, none⟩ u).ownsRow base e size (.slice (some ⟨g, 0, none⟩) n cap) n (xs.set j u) := by
  refine ⟨by rw [List.length_set]; exact h.1, ?_⟩
  rcases h.2 with ⟨hn, _⟩ | ⟨g', cap', cur, hv, hB, hg, hc, hm, hs, ht⟩
  · cases hn
  · injection hv with e1 e2 e3
    injection e1 with e1
    injection e1 with e1
    subst e1 e3
    refine .inr ⟨g, cap, cur.setIfInBounds j u, rfl, hB, heap_set u hg, hc, hm, by simpa using hs, ?_⟩
    rw [Array.toList_setIfInBounds, List.take_set, ht]
/-- What an owned row's slice looks like. -/
theorem own_shape {w : World} {base : Nat} {e : TypeId} {size : Nat} {v : Value} {n : Nat} {xs : List Value} (h : w.ownsRow base e size v n xs) : ∃ a c, v = .slice a n c ∧ (a = none ∨ ∃ g, a = some ⟨g, 0, none⟩) ∧ n ≤ c := by
  rcases h.2 with ⟨rfl, rfl⟩ | ⟨g, cap, cur, rfl, _, _, hc, _⟩
  · exact ⟨none, 0, rfl, .inl rfl, Nat.le_refl _⟩
  · exact ⟨_, cap, rfl, .inr ⟨g, rfl⟩, hc⟩
theorem own_nil (w : World) (base : Nat) (e : TypeId) (size : Nat) : w.ownsRow base e size (.slice none 0 0) 0 [] := ⟨by simp, .inl ⟨rfl, rfl⟩⟩

/-! ### an arena as plain data -/
/-- How things lie: the types of an arena, its state, a place; a thing's value, the zero one. -/
structure Kd (α : Type) where
  tA : TypeId
  tS : TypeId
  tP : TypeId
  enc : α → Value
  z : Value
  one : ∀ x, (enc x).oneCell' = true
  oneZ : z.oneCell' = true
  nAS : tA ≠ tS
  nAP : tA ≠ tP
  nSP : tS ≠ tP
  nAI : tA ≠ 3
  nSI : tS ≠ 3
  nPI : tP ≠ 3
@[reducible] def plc {α : Type} (K : Kd α) : Option α → List Value
  | none => [.bool false, K.z]
  | some x => [.bool true, K.enc x]
def plC {α : Type} (K : Kd α) : Cel (Option α) := ⟨plc K, 2, fun x => by cases x <;> rfl, fun x u hu => by
  cases x with
  | none =>
    rcases List.mem_cons.1 hu with rfl | hu
    · rfl
    · obtain rfl := List.mem_singleton.1 hu
      exact K.oneZ
  | some x =>
    rcases List.mem_cons.1 hu with rfl | hu
    · rfl
    · obtain rfl := List.mem_singleton.1 hu
      exact K.one x, by decide⟩
/-- Places by their numbers, and the numbers of those that are free, the one that was freed last at the end. -/
structure ArS (α : Type) where
  ps : List (Option α)
  free : List Nat
section
variable {α : Type}
def ArS.at_ (A : ArS α) (i : Nat) : Option α := A.ps.getD i none
def ArS.has (A : ArS α) (i : Int) : Bool := decide (0 ≤ i) && (A.at_ i.toNat).isSome
def ArS.fresh (A : ArS α) : Nat := match A.free.getLast? with
  | some i => i
  | none => A.ps.length
def ArS.take (A : ArS α) (x : α) : ArS α := match A.free.getLast? with
  | some i => ⟨A.ps.set i (some x), A.free.dropLast⟩
  | none => ⟨A.ps ++ [some x], A.free⟩
def ArS.out (A : ArS α) (i : Nat) : ArS α := ⟨A.ps.set i none, A.free ++ [i]⟩
def ArS.put (A : ArS α) (i : Nat) (x : α) : ArS α := ⟨A.ps.set i (some x), A.free⟩
def ArS.len (A : ArS α) : Nat := A.ps.length - A.free.length
def newA : ArS α := ⟨[], []⟩
/-- How many are taken. -/
def cnt (l : List (Option α)) : Nat := l.countP Option.isSome
structure ArS.Ok (A : ArS α) : Prop where
  freeB : ∀ i ∈ A.free, i < A.ps.length ∧ A.at_ i = none
  freeN : A.free.Nodup
  cnt : cnt A.ps + A.free.length = A.ps.length
/-- Nothing is greater than the number of calls. -/
structure ArS.Le (A : ArS α) (n : Nat) : Prop where
  ps : A.ps.length ≤ n
  free : A.free.length ≤ n
theorem ArS.Le.mono {A : ArS α} {n m : Nat} (h : A.Le n) (hm : n ≤ m) : A.Le m := ⟨Nat.le_trans h.ps hm, Nat.le_trans h.free hm⟩
theorem getD_setA (l : List (Option α)) (i j : Nat) (e : Option α) : (l.set i e).getD j none = if j = i ∧ i < l.length then e else l.getD j none := by
  simp only [List.getD_eq_getElem?_getD, List.getElem?_set]
  by_cases h : i = j
  · subst h
    by_cases h2 : i < l.length
    · simp [h2]
    · simp [h2]
  · have : ¬ j = i := fun e => h e.symm
    simp [h, this]
theorem getD_snocA (l : List (Option α)) (j : Nat) (e : Option α) : (l ++ [e]).getD j none = if j = l.length then e else l.getD j none := by
  simp only [List.getD_eq_getElem?_getD]
  by_cases h : j = l.length
  · subst h; simp
  · rw [if_neg h]
    by_cases h2 : j < l.length
    · rw [List.getElem?_append_left h2]
    · rw [List.getElem?_eq_none (by simp; omega), List.getElem?_eq_none (by omega)]
theorem at_lt {A : ArS α} {i : Nat} {x : α} (h : A.at_ i = some x) : i < A.ps.length := by
  unfold ArS.at_ at h
  rw [List.getD_eq_getElem?_getD] at h
  rcases Nat.lt_or_ge i A.ps.length with hl | hl
  · exact hl
  · rw [List.getElem?_eq_none hl] at h; cases h
theorem at_get {A : ArS α} {i : Nat} (h : i < A.ps.length) : A.ps[i]? = some (A.at_ i) := by
  unfold ArS.at_
  rw [List.getD_eq_getElem?_getD, List.getElem?_eq_getElem h]; rfl
theorem at_ge {A : ArS α} {i : Nat} (h : A.ps.length ≤ i) : A.at_ i = none := by
  unfold ArS.at_
  rw [List.getD_eq_getElem?_getD, List.getElem?_eq_none h]; rfl
theorem has_some {A : ArS α} {i : Int} (h : A.has i = true) : ∃ (k : Nat) (x : α), i = k ∧ A.at_ k = some x ∧ k < A.ps.length := by
  unfold ArS.has at h
  rw [Bool.and_eq_true, decide_eq_true_iff] at h
  obtain ⟨h1, h2⟩ := h
  obtain ⟨x, hx⟩ := Option.isSome_iff_exists.1 h2
  exact ⟨i.toNat, x, by omega, hx, at_lt hx⟩
theorem some_has {A : ArS α} {k : Nat} {x : α} (h : A.at_ k = some x) : A.has (k : Nat) = true := by
  unfold ArS.has
  rw [Int.toNat_natCast, h]
  simp
theorem has_nat (A : ArS α) (k : Nat) : A.has (k : Nat) = (A.at_ k).isSome := by
  unfold ArS.has
  rw [Int.toNat_natCast]
  simp
theorem has_neg {A : ArS α} {i : Int} (h : i < 0) : A.has i = false := by
  unfold ArS.has
  have : decide (0 ≤ i) = false := by simpa using h
  rw [this]; rfl
theorem has_lt {A : ArS α} {i : Int} (h : A.has i = true) : 0 ≤ i ∧ i < A.ps.length := by
  obtain ⟨k, x, rfl, _, h3⟩ := has_some h
  omega
theorem has_ge {A : ArS α} {i : Int} (h : A.ps.length ≤ i) : A.has i = false := by
  cases hh : A.has i with
  | false => rfl
  | true => have := has_lt hh; omega

theorem cnt_set (l : List (Option α)) (i : Nat) (e : Option α) (h : i < l.length) : cnt (l.set i e) + (if (l.getD i none).isSome then 1 else 0) = cnt l + if e.isSome then 1 else 0 := by
  induction l generalizing i with
  | nil => simp at h
  | cons a r ih =>
    cases i with
    | zero =>
      simp only [List.set_cons_zero, cnt, List.countP_cons, List.getD_cons_zero]
      omega
    | succ i =>
      have := ih i (by simpa using h)
      simp only [List.set_cons_succ, cnt, List.countP_cons, List.getD_cons_succ] at this ⊢
      omega
theorem cnt_snoc (l : List (Option α)) (x : α) : cnt (l ++ [some x]) = cnt l + 1 := by simp [cnt]
theorem ok_newA : (newA : ArS α).Ok := ⟨fun i hi => by simp [newA] at hi, List.nodup_nil, by simp [newA, cnt]⟩
theorem le_newA (n : Nat) : (newA : ArS α).Le n := ⟨by simp [newA], by simp [newA]⟩

theorem freshA {A : ArS α} (h : A.Ok) : A.at_ A.fresh = none ∧ A.fresh ≤ A.ps.length := by
  unfold ArS.fresh
  cases hf : A.free.getLast? with
  | some i => obtain ⟨h1, h2⟩ := h.freeB i (List.mem_of_getLast? hf); exact ⟨h2, by simp; omega⟩
  | none => exact ⟨at_ge (Nat.le_refl _), Nat.le_refl _⟩
theorem at_take {A : ArS α} (h : A.Ok) (x : α) (j : Nat) : (A.take x).at_ j = if j = A.fresh then some x else A.at_ j := by
  unfold ArS.take ArS.fresh
  cases hf : A.free.getLast? with
  | some i =>
    obtain ⟨h1, h2⟩ := h.freeB i (List.mem_of_getLast? hf)
    show (A.ps.set i (some x)).getD j none = _
    rw [getD_setA]
    by_cases hj : j = i
    · rw [if_pos ⟨hj, h1⟩, if_pos hj]
    · rw [if_neg (fun hc => hj hc.1), if_neg hj]; rfl
  | none =>
    show (A.ps ++ [some x]).getD j none = _
    rw [getD_snocA]
    rfl
theorem at_out {A : ArS α} (i j : Nat) : (A.out i).at_ j = if j = i then none else A.at_ j := by
  unfold ArS.out ArS.at_
  rw [getD_setA]
  by_cases hj : j = i
  · subst hj
    rw [if_pos rfl]
    split
    · rfl
    · rename_i hc
      have : A.ps.length ≤ j := by omega
      simp [List.getD_eq_getElem?_getD, List.getElem?_eq_none this]
  · rw [if_neg (fun hc => hj hc.1), if_neg hj]
theorem at_put {A : ArS α} {i : Nat} (hi : i < A.ps.length) (x : α) (j : Nat) : (A.put i x).at_ j = if j = i then some x else A.at_ j := by
  unfold ArS.put ArS.at_
  rw [getD_setA]
  by_cases hj : j = i
  · rw [if_pos ⟨hj, hi⟩, if_pos hj]
  · rw [if_neg (fun hc => hj hc.1), if_neg hj]
theorem nodup_dropLast {l : List Nat} (h : l.Nodup) : l.dropLast.Nodup := h.sublist (List.dropLast_sublist l)
theorem last_not {l : List Nat} {i : Nat} (h : l.Nodup) (hi : l.getLast? = some i) : i ∉ l.dropLast := by
  obtain ⟨m, rfl⟩ := List.getLast?_eq_some_iff.1 hi
  intro hm
  rw [List.dropLast_concat] at hm
  exact (List.nodup_append.1 h).2.2 i hm i (by simp) rfl
theorem ok_take {A : ArS α} (h : A.Ok) (x : α) : (A.take x).Ok := by
  have hat := at_take h x
  unfold ArS.fresh at hat
  revert hat
  unfold ArS.take
  cases hf : A.free.getLast? with
  | some i =>
    intro hat
    obtain ⟨h1, h2⟩ := h.freeB i (List.mem_of_getLast? hf)
    have hpos : 0 < A.free.length := List.length_pos_of_mem (List.mem_of_getLast? hf)
    refine ⟨fun j hj => ?_, nodup_dropLast h.freeN, ?_⟩
    · have hm := (List.dropLast_sublist _).subset hj
      obtain ⟨q1, q2⟩ := h.freeB j hm
      have hne : j ≠ i := fun e => last_not h.freeN hf (e ▸ hj)
      refine ⟨by simpa using q1, ?_⟩
      rw [hat, if_neg (by simpa using hne)]; exact q2
    · have hc := cnt_set A.ps i (some x) h1
      have h0 := h.cnt
      have e : A.ps.getD i none = none := h2
      rw [e] at hc
      simp at hc
      simp
      omega
  | none =>
    intro hat
    have e : A.free = [] := by simpa using hf
    refine ⟨fun j hj => ?_, h.freeN, ?_⟩
    · have hj' : j ∈ A.free := hj
      rw [e] at hj'; cases hj'
    · have h0 := h.cnt
      show _root_.Go.Proofs.Ytoppgdhidnpibaa.cnt (A.ps ++ [some x]) + A.free.length = (A.ps ++ [some x]).length
      rw [cnt_snoc, List.length_append, List.length_singleton]
      omega
theorem le_take {A : ArS α} {n : Nat} (h : A.Le n) (x : α) : (A.take x).Le (n + 1) := by
  unfold ArS.take
  cases hf : A.free.getLast? with
  | some i => exact ⟨by have := h.ps; simp; omega, by have := h.free; simp; omega⟩
  | none => exact ⟨by have := h.ps; simp; omega, by have := h.free; simp; omega⟩
theorem ok_out {A : ArS α} (h : A.Ok) {i : Nat} {x : α} (hi : A.at_ i = some x) : (A.out i).Ok := by
  have hl := at_lt hi
  refine ⟨fun j hj => ?_, ?_, ?_⟩
  · rw [at_out]
    show j < (A.ps.set i none).length ∧ _
    rw [List.length_set]
    rcases List.mem_append.1 hj with hj | hj
    · obtain ⟨q1, q2⟩ := h.freeB j hj
      exact ⟨q1, by split; rfl; exact q2⟩
    · obtain rfl := List.mem_singleton.1 hj
      exact ⟨hl, if_pos rfl⟩
  · refine List.nodup_append.2 ⟨h.freeN, by simp, fun a ha b hb => ?_⟩
    obtain rfl := List.mem_singleton.1 hb
    rintro rfl
    rw [(h.freeB a ha).2] at hi; cases hi
  · have hc := cnt_set A.ps i none hl
    have h0 := h.cnt
    have e : A.ps.getD i none = some x := hi
    rw [e] at hc
    simp at hc
    show _root_.Go.Proofs.Ytoppgdhidnpibaa.cnt (A.ps.set i none) + (A.free ++ [i]).length = (A.ps.set i none).length
    rw [List.length_set, List.length_append, List.length_singleton]
    omega
theorem le_out {A : ArS α} {n : Nat} (h : A.Le n) (i : Nat) : (A.out i).Le (n + 1) := ⟨by have := h.ps; simp [ArS.out]; omega, by have := h.free; simp [ArS.out]; omega⟩
theorem ok_put {A : ArS α} (h : A.Ok) {i : Nat} {x : α} (hi : A.at_ i = some x) (y : α) : (A.put i y).Ok := by
  have hl := at_lt hi
  refine ⟨fun j hj => ?_, h.freeN, ?_⟩
  · obtain ⟨q1, q2⟩ := h.freeB j hj
    rw [at_put hl]
    refine ⟨by simpa [ArS.put] using q1, ?_⟩
    rw [if_neg]
    · exact q2
    · rintro rfl
      rw [q2] at hi; cases hi
  · have hc := cnt_set A.ps i (some y) hl
    have h0 := h.cnt
    have e : A.ps.getD i none = some x := hi
    rw [e] at hc
    simp at hc
    show _root_.Go.Proofs.Ytoppgdhidnpibaa.cnt (A.ps.set i (some y)) + A.free.length = (A.ps.set i (some y)).length
    rw [List.length_set]
    omega
theorem le_put {A : ArS α} {n : Nat} (h : A.Le n) (i : Nat) (y : α) : (A.put i y).Le n := ⟨by have := h.ps; simp [ArS.put]; omega, h.free⟩
theorem len_cnt {A : ArS α} (h : A.Ok) : A.len = cnt A.ps := by have := h.cnt; unfold ArS.len; omega
end

/-! ### in memory -/
section
variable {α : Type} {K : Kd α}
/-- An arena's memory: its block, its state's, the rows of places and of free ones; in blocks of S, from B on. -/
structure ArM (K : Kd α) (B : Nat) (S : Nat → Prop) (ab st : Nat) (sv fv : Value) (ps : List (Option α)) (fr : List Nat) (w : World) : Prop where
  hab : w.heap[ab]? = some (.cells #[.pointer (some ⟨st, 0, none⟩)] K.tA (0, 0))
  hst : w.heap[st]? = some (.cells #[sv, fv] K.tS (0, 0))
  hsv : w.ownsRow 0 K.tP 2 sv ps.length (fl (plC K) ps)
  hfv : w.ownsRow 0 3 1 fv fr.length (fr.map fun i => Value.int .i64 (i : Nat))
  sA : S ab
  sSt : S st
  sSv : ∀ g, sv.ownBlock = some g → S g
  sFv : ∀ g, fv.ownBlock = some g → S g
  sB : ∀ k, S k → B ≤ k
  hB : B ≤ w.heap.size
variable {B : Nat} {S : Nat → Prop} {ab st : Nat} {sv fv : Value} {ps : List (Option α)} {fr : List Nat} {w w' w1 : World}
theorem ArM.kept (h : ArM K B S ab st sv fv ps fr w) (hz : w.heap.size ≤ w'.heap.size) (hk : ∀ k, k < w.heap.size → S k → w'.heap[k]? = w.heap[k]?) : ArM K B S ab st sv fv ps fr w' :=
  ⟨(hk ab (lt_of_heap h.hab) h.sA).trans h.hab, (hk st (lt_of_heap h.hst) h.sSt).trans h.hst, owns_kept h.hsv (fun g hg => hk g (own_lt7 h.hsv hg) (h.sSv g hg)), owns_kept h.hfv (fun g hg => hk g (own_lt7 h.hfv hg) (h.sFv g hg)),
    h.sA, h.sSt, h.sSv, h.sFv, h.sB, by have := h.hB; omega⟩
theorem ArM.below (h : ArM K B S ab st sv fv ps fr w) (hb : Below w.heap.size w w') : ArM K B S ab st sv fv ps fr w' := h.kept hb.size (fun k hk _ => hb.block k hk)
theorem ArM.mono (h : ArM K B S ab st sv fv ps fr w) {S' : Nat → Prop} (hS : ∀ k, S k → S' k) (hB : ∀ k, S' k → B ≤ k) : ArM K B S' ab st sv fv ps fr w :=
  ⟨h.hab, h.hst, h.hsv, h.hfv, hS _ h.sA, hS _ h.sSt, fun g hg => hS _ (h.sSv g hg), fun g hg => hS _ (h.sFv g hg), hB, h.hB⟩
theorem ArM.cutS (h : ArM K B S ab st sv fv ps fr w) : ArM K B (fun k => S k ∧ k < w.heap.size) ab st sv fv ps fr w :=
  ⟨h.hab, h.hst, h.hsv, h.hfv, ⟨h.sA, lt_of_heap h.hab⟩, ⟨h.sSt, lt_of_heap h.hst⟩, fun g hg => ⟨h.sSv g hg, own_lt7 h.hsv hg⟩, fun g hg => ⟨h.sFv g hg, own_lt7 h.hfv hg⟩, fun k hk => h.sB k hk.1, h.hB⟩
theorem ArM.cells (h : ArM K B S ab st sv fv ps fr w) : w.cell? ⟨ab, 0, none⟩ = some (.pointer (some ⟨st, 0, none⟩)) ∧ w.cell? ⟨st, 0, none⟩ = some sv ∧ w.cell? ⟨st, 1, none⟩ = some fv := by
  refine ⟨?_, ?_, ?_⟩
  · rw [cell_of_row w ab 0 _ _ _ h.hab]; rfl
  · rw [cell_of_row w st 0 _ _ _ h.hst]; rfl
  · rw [cell_of_row w st 1 _ _ _ h.hst]; rfl
theorem ArM.nofreeze (h : ArM K B S ab st sv fv ps fr w) (o : Nat) : w.frozen? ⟨st, o, none⟩ = false := by simp [World.frozen?, h.hst]
theorem ArM.form (h : ArM K B S ab st sv fv ps fr w) (h0 : 0 < ps.length) : ∃ g cap, sv = .slice (some ⟨g, 0, none⟩) ps.length cap ∧ g < w.heap.size ∧ ps.length ≤ cap := by
  obtain ⟨g, cap, rfl, -, hg⟩ := h.hsv.form h0
  refine ⟨g, cap, rfl, hg, ?_⟩
  rcases h.hsv.2 with ⟨hn, _⟩ | ⟨g', cap', cur, hv, _, _, hc, _⟩
  · cases hn
  · injection hv with _ _ e; subst e; exact hc
theorem ArM.place {g cap : Nat} (h : ArM K B S ab st (.slice (some ⟨g, 0, none⟩) ps.length cap) fv ps fr w) {i : Nat} {p : Option α} {b u : Value} (hi : ps[i]? = some p) (hp : plc K p = [b, u]) :
    w.cell? ⟨g, i * 2, none⟩ = some b ∧ w.cell? ⟨g, i * 2 + 1, none⟩ = some u ∧ (∀ o, w.frozen? ⟨g, o, none⟩ = false) := by
  obtain ⟨hlt, hx2⟩ := List.getElem?_eq_some_iff.1 hi
  have hR := (Row.of_owns (C := plC K) h.hsv).1
  obtain ⟨b', off, ha, -, -, -, -, hat, -⟩ := Row.opened hR (by omega)
  obtain ⟨rfl, rfl⟩ : b' = g ∧ off = 0 := by injection ha with e; injection e with e1 e2; exact ⟨e1.symm, e2.symm⟩
  have e : (plC K).c ps[i] = [b, u] := by rw [hx2]; exact hp
  have c0 := hat i hlt 0 b (by rw [e]; rfl)
  have c1 := hat i hlt 1 u (by rw [e]; rfl)
  rw [Nat.zero_add] at c0 c1
  refine ⟨c0, c1, fun o => ?_⟩
  obtain ⟨cur, hc⟩ := own_tag h.hsv (g := b') rfl
  simp [World.frozen?, hc]
theorem fl_put2 (b u : Value) (y : Option α) (hy : plc K y = [b, u]) : ∀ (ps : List (Option α)) (i : Nat), i < ps.length → ((fl (plC K) ps).set (i * 2) b).set (i * 2 + 1) u = fl (plC K) (ps.set i y)
  | [], i, h => by simp at h
  | p :: r, 0, h => by
    rw [List.set_cons_zero, fl_cons, fl_cons]
    show ((plc K p ++ fl (plC K) r).set 0 b).set 1 u = plc K y ++ _
    rw [hy]
    cases p <;> rfl
  | p :: r, i + 1, h => by
    rw [List.set_cons_succ, fl_cons, fl_cons, ← fl_put2 b u y hy r i (by simpa using h)]
    have e1 : (i + 1) * 2 = (i * 2) + 2 := by omega
    rw [e1]
    show ((plc K p ++ fl (plC K) r).set (i * 2 + 2) b).set (i * 2 + 2 + 1) u = plc K p ++ _
    cases p <;> simp [plc]
theorem fl_put1 (u : Value) (y : Option α) (x : α) (hy : plc K y = [.bool true, u]) : ∀ (ps : List (Option α)) (i : Nat), ps[i]? = some (some x) → (fl (plC K) ps).set (i * 2 + 1) u = fl (plC K) (ps.set i y)
  | [], i, h => by simp at h
  | p :: r, 0, h => by
    obtain rfl : p = some x := by simpa using h
    rw [List.set_cons_zero, fl_cons, fl_cons]
    show (plc K (some x) ++ fl (plC K) r).set 1 u = plc K y ++ _
    rw [hy]
    rfl
  | p :: r, i + 1, h => by
    rw [List.set_cons_succ, fl_cons, fl_cons, ← fl_put1 u y x hy r i (by simpa using h)]
    have e1 : (i + 1) * 2 + 1 = (i * 2 + 1) + 2 := by omega
    rw [e1]
    show (plc K p ++ fl (plC K) r).set (i * 2 + 1 + 2) u = plc K p ++ _
    cases p <;> simp [plc]
/-- The row of places turns within. -/
theorem ArM.turn {g cap : Nat} {ps' : List (Option α)} (h : ArM K B S ab st (.slice (some ⟨g, 0, none⟩) ps.length cap) fv ps fr w) (hG : w.grownBy w' (some g)) (ho : w'.ownsRow 0 K.tP 2 (.slice (some ⟨g, 0, none⟩) ps.length cap) ps.length (fl (plC K) ps')) (hl : ps'.length = ps.length) :
    ArM K B S ab st (.slice (some ⟨g, 0, none⟩) ps.length cap) fv ps' fr w' := by
  obtain ⟨cur, hcur⟩ := own_tag h.hsv (g := g) rfl
  refine ⟨far hG h.hab (fun g' hg' => by cases hg'; exact ⟨_, hcur, fun e => by injection e with _ e _; exact K.nAP e.symm⟩), far hG h.hst (fun g' hg' => by cases hg'; exact ⟨_, hcur, fun e => by injection e with _ e _; exact K.nSP e.symm⟩), by rw [hl]; exact ho,
    own_far hG h.hfv (fun g' hg' => by cases hg'; exact ⟨_, hcur, fun c e => by injection e with _ e _; exact K.nPI e⟩), h.sA, h.sSt, h.sSv, h.sFv, h.sB, by have := h.hB; have := hG.size; omega⟩
theorem grown_two {g o p : Nat} (u v : Value) : w.grownBy ((w.setCell ⟨g, o, none⟩ u).setCell ⟨g, p, none⟩ v) (some g) :=
  ⟨rfl, rfl, rfl, by simp [World.setCell], fun k h1 hk => by
    rw [Below.heap_setCell _ _ _ _ (fun e => hk (by rw [e])), Below.heap_setCell _ _ _ _ (fun e => hk (by rw [e]))]⟩
/-- Both cells of a place. -/
theorem ArM.put2 {g cap : Nat} (h : ArM K B S ab st (.slice (some ⟨g, 0, none⟩) ps.length cap) fv ps fr w) {i : Nat} (hi : i < ps.length) {y : Option α} {b u : Value} (hy : plc K y = [b, u]) :
    ArM K B S ab st (.slice (some ⟨g, 0, none⟩) ps.length cap) fv (ps.set i y) fr ((w.setCell ⟨g, i * 2, none⟩ b).setCell ⟨g, i * 2 + 1, none⟩ u) := by
  refine h.turn (grown_two _ _) ?_ (by simp)
  rw [← fl_put2 b u y hy ps i hi]
  exact owns_set (owns_set h.hsv b) u
/-- A thing alone. -/
theorem ArM.put1 {g cap : Nat} (h : ArM K B S ab st (.slice (some ⟨g, 0, none⟩) ps.length cap) fv ps fr w) {i : Nat} {x : α} (hi : ps[i]? = some (some x)) (y : α) :
    ArM K B S ab st (.slice (some ⟨g, 0, none⟩) ps.length cap) fv (ps.set i (some y)) fr (w.setCell ⟨g, i * 2 + 1, none⟩ (K.enc y)) := by
  refine h.turn (grown_set _) ?_ (by simp)
  rw [← fl_put1 (K.enc y) (some y) x rfl ps i hi]
  exact owns_set h.hsv _
/-- The row of free ones turns, and the state with it. -/
theorem ArM.refree (h : ArM K B S ab st sv fv ps fr w) {fv' : Value} {fr' : List Nat} (hG : w.grownBy w1 fv.ownBlock) (ho : w1.ownsRow 0 3 1 fv' fr'.length (fr'.map fun i => Value.int .i64 (i : Nat))) (hS : ∀ g, fv'.ownBlock = some g → S g) :
    ArM K B S ab st sv fv' ps fr' (w1.setCell ⟨st, 1, none⟩ fv') := by
  have ht1 : ∀ g', fv.ownBlock = some g' → ∃ cur, w.heap[g']? = some (.cells cur 3 (0, 0)) := fun g' hg' => own_tag h.hfv hg'
  have hst1 := far hG h.hst (fun g' hg' => by obtain ⟨cur, hcur⟩ := ht1 g' hg'; exact ⟨_, hcur, fun e => by injection e with _ e _; exact K.nSI e.symm⟩)
  have hab1 := far hG h.hab (fun g' hg' => by obtain ⟨cur, hcur⟩ := ht1 g' hg'; exact ⟨_, hcur, fun e => by injection e with _ e _; exact K.nAI e.symm⟩)
  have hG2 := grown_set (w := w1) (g := st) (o := 1) fv'
  have hs1 : ∀ e : TypeId, e ≠ K.tS → ∀ g', some st = some g' → ∃ o', w1.heap[g']? = some o' ∧ ∀ c, o' ≠ .cells c e (0, 0) := fun e he g' hg' => by
    cases hg'
    exact ⟨_, hst1, fun c hc => by injection hc with _ hc _; exact he hc.symm⟩
  refine ⟨far hG2 hab1 (fun g' hg' => by cases hg'; exact ⟨_, hst1, fun e => by injection e with _ e _; exact K.nAS e.symm⟩), ?_, own_far hG2 (own_far hG h.hsv (fun g' hg' => by obtain ⟨cur, hcur⟩ := ht1 g' hg'; exact ⟨_, hcur, fun c e => by injection e with _ e _; exact K.nPI e.symm⟩)) (hs1 _ K.nSP.symm), own_far hG2 ho (hs1 _ K.nSI.symm),
    h.sA, h.sSt, h.sSv, hS, h.sB, by have := h.hB; have := hG.size; have := hG2.size; omega⟩
  rw [heap_set fv' hst1]; rfl
/-- The row of places grows, and the state with it. -/
theorem ArM.resets (h : ArM K B S ab st sv fv ps fr w) {sv' : Value} {ps' : List (Option α)} (hG : w.grownBy w1 sv.ownBlock) (ho : w1.ownsRow 0 K.tP 2 sv' ps'.length (fl (plC K) ps')) (hS : ∀ g, sv'.ownBlock = some g → S g) :
    ArM K B S ab st sv' fv ps' fr (w1.setCell ⟨st, 0, none⟩ sv') := by
  have ht1 : ∀ g', sv.ownBlock = some g' → ∃ cur, w.heap[g']? = some (.cells cur K.tP (0, 0)) := fun g' hg' => own_tag h.hsv hg'
  have hst1 := far hG h.hst (fun g' hg' => by obtain ⟨cur, hcur⟩ := ht1 g' hg'; exact ⟨_, hcur, fun e => by injection e with _ e _; exact K.nSP e.symm⟩)
  have hab1 := far hG h.hab (fun g' hg' => by obtain ⟨cur, hcur⟩ := ht1 g' hg'; exact ⟨_, hcur, fun e => by injection e with _ e _; exact K.nAP e.symm⟩)
  have hG2 := grown_set (w := w1) (g := st) (o := 0) sv'
  have hs1 : ∀ e : TypeId, e ≠ K.tS → ∀ g', some st = some g' → ∃ o', w1.heap[g']? = some o' ∧ ∀ c, o' ≠ .cells c e (0, 0) := fun e he g' hg' => by
    cases hg'
    exact ⟨_, hst1, fun c hc => by injection hc with _ hc _; exact he hc.symm⟩
  refine ⟨far hG2 hab1 (fun g' hg' => by cases hg'; exact ⟨_, hst1, fun e => by injection e with _ e _; exact K.nAS e.symm⟩), ?_, own_far hG2 ho (hs1 _ K.nSP.symm), own_far hG2 (own_far hG h.hfv (fun g' hg' => by obtain ⟨cur, hcur⟩ := ht1 g' hg'; exact ⟨_, hcur, fun c e => by injection e with _ e _; exact K.nPI e⟩)) (hs1 _ K.nSI.symm),
    h.sA, h.sSt, hS, h.sFv, h.sB, by have := h.hB; have := hG.size; have := hG2.size; omega⟩
  rw [heap_set sv' hst1]; rfl
end
end Go.Proofs.Ytoppgdhidnpibaa
