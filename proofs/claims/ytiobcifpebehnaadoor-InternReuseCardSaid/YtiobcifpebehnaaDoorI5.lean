
import Derived.Test.YtiobcifpebehnaaDoorI4
import Derived.Test.YtiobcifpebehnaaDoorS1
import Derived.Maps.OwnSet
/- I5: a table as plain data -/
namespace Go.Proofs.YtiobcifpebehnaaDoor
open Go.RowKit
set_option linter.unusedVariables false

/-- A place of the table: its set, and how often it is held. -/
structure Ent where
  set : List Att
  n : Nat
@[reducible] def noEnt : Ent := ⟨[], 0⟩
/-- A table: its schema's keys, its places by ids, the ids that are free, the one freed last at the end. -/
structure TabS where
  ks : List Key
  es : List Ent
  free : List Nat

def TabS.set (T : TabS) (i : Nat) : List Att := (T.es.getD i noEnt).set
def TabS.times (T : TabS) (i : Nat) : Nat := (T.es.getD i noEnt).n
def TabS.live (T : TabS) (i : Nat) : Prop := i = 0 ∨ (i < T.es.length ∧ 0 < T.times i)
instance (T : TabS) (i : Nat) : Decidable (T.live i) := inferInstanceAs (Decidable (i = 0 ∨ (i < T.es.length ∧ 0 < T.times i)))
def TabS.has (T : TabS) (id : Int) : Bool := decide (id = 0 ∨ (0 < id ∧ id < T.es.length ∧ 0 < T.times id.toNat))
theorem has_live {T : TabS} {id : Int} (h : T.has id = true) : ∃ i : Nat, id = i ∧ T.live i := by
  unfold TabS.has at h
  rw [decide_eq_true_iff] at h
  rcases h with rfl | ⟨h1, h2, h3⟩
  · exact ⟨0, rfl, .inl rfl⟩
  · exact ⟨id.toNat, by omega, .inr ⟨by omega, h3⟩⟩
theorem live_has {T : TabS} {i : Nat} (h : T.live i) : T.has (i : Int) = true := by
  unfold TabS.has
  rw [decide_eq_true_iff]
  rcases h with rfl | ⟨h1, h2⟩
  · exact .inl rfl
  · rcases Nat.eq_zero_or_pos i with rfl | hp
    · exact .inl rfl
    · exact .inr ⟨by omega, by omega, by simpa using h2⟩
def TabS.look (T : TabS) (x : List Att) : Option Nat := (List.range T.es.length).find? fun i => decide (T.live i ∧ T.set i = x)
theorem look_some {T : TabS} {x : List Att} {i : Nat} (h : T.look x = some i) : T.live i ∧ T.set i = x ∧ i < T.es.length := by
  unfold TabS.look at h
  have h1 := List.find?_some h
  have h2 := List.mem_range.1 (List.mem_of_find?_eq_some h)
  rw [decide_eq_true_iff] at h1
  exact ⟨h1.1, h1.2, h2⟩

def TabS.upd (T : TabS) (i : Nat) (e : Ent) : TabS := ⟨T.ks, T.es.set i e, T.free⟩
def TabS.bump (T : TabS) (i : Nat) : TabS := T.upd i ⟨T.set i, T.times i + 1⟩
/-- The id that a set which is not there gets, and the table with it. -/
def TabS.fresh (T : TabS) : Nat := match T.free.getLast? with
  | some i => i
  | none => T.es.length
def TabS.ins (T : TabS) (x : List Att) : TabS := match T.free.getLast? with
  | some i => ⟨T.ks, T.es.set i ⟨x, 1⟩, T.free.dropLast⟩
  | none => ⟨T.ks, T.es ++ [⟨x, 1⟩], T.free⟩
def TabS.add (T : TabS) (x : List Att) : TabS := match T.look x with
  | some i => T.bump i
  | none => T.ins x
def TabS.idOf (T : TabS) (x : List Att) : Nat := match T.look x with
  | some i => i
  | none => T.fresh
/-- Held once less. -/
def TabS.less (T : TabS) (i : Nat) : TabS := if i ≠ 0 ∧ T.times i = 1 then ⟨T.ks, T.es.set i noEnt, T.free ++ [i]⟩ else T.upd i ⟨T.set i, T.times i - 1⟩
def TabS.len (T : TabS) : Nat := T.es.length - T.free.length
def newT (ks : List Key) : TabS := ⟨ks, [noEnt], []⟩

/-! ### places -/
theorem getD_set (l : List Ent) (i j : Nat) (e : Ent) : (l.set i e).getD j noEnt = if j = i ∧ i < l.length then e else l.getD j noEnt := by
  simp only [List.getD_eq_getElem?_getD, List.getElem?_set]
  by_cases h : i = j
  · subst h
    by_cases h2 : i < l.length
    · simp [h2]
    · simp [h2]
  · have : ¬ j = i := fun e => h e.symm
    simp [h, this]
theorem getD_snoc (l : List Ent) (j : Nat) (e : Ent) : (l ++ [e]).getD j noEnt = if j = l.length then e else l.getD j noEnt := by
  simp only [List.getD_eq_getElem?_getD]
  by_cases h : j = l.length
  · subst h; simp
  · rw [if_neg h]
    by_cases h2 : j < l.length
    · rw [List.getElem?_append_left h2]
    · rw [List.getElem?_eq_none (by simp; omega), List.getElem?_eq_none (by omega)]
theorem set_upd (T : TabS) (i j : Nat) (e : Ent) : (T.upd i e).set j = if j = i ∧ i < T.es.length then e.set else T.set j := by
  unfold TabS.set TabS.upd; rw [getD_set]; split <;> rfl
theorem times_upd (T : TabS) (i j : Nat) (e : Ent) : (T.upd i e).times j = if j = i ∧ i < T.es.length then e.n else T.times j := by
  unfold TabS.times TabS.upd; rw [getD_set]; split <;> rfl
theorem live_lt {T : TabS} {i : Nat} (h : T.live i) (h0 : 0 < T.es.length) : i < T.es.length := by
  rcases h with rfl | h
  · exact h0
  · exact h.1

/-- What is true of a table. -/
structure TabS.Ok (T : TabS) : Prop where
  pos : 0 < T.es.length
  zero : T.set 0 = []
  apart : ∀ i j, T.live i → T.live j → T.set i = T.set j → i = j
  small : ∀ i, T.live i → Small (T.set i)
  freeB : ∀ i ∈ T.free, 0 < i ∧ i < T.es.length ∧ T.times i = 0
  freeN : T.free.Nodup
/-- Nothing is greater than the number of calls. -/
structure TabS.Le (T : TabS) (n : Nat) : Prop where
  es : T.es.length ≤ n + 1
  free : T.free.length ≤ n
  times : ∀ i, T.times i ≤ n
theorem TabS.Le.mono {T : TabS} {n m : Nat} (h : T.Le n) (hm : n ≤ m) : T.Le m := ⟨by have := h.es; omega, by have := h.free; omega, fun i => Nat.le_trans (h.times i) hm⟩

theorem look_none {T : TabS} (hT : 0 < T.es.length) {x : List Att} (h : T.look x = none) {i : Nat} (hl : T.live i) : T.set i ≠ x := by
  unfold TabS.look at h
  have h1 := List.find?_eq_none.1 h i (List.mem_range.2 (live_lt hl hT))
  simp only [decide_eq_true_iff] at h1
  exact fun e => h1 ⟨hl, e⟩
theorem look_live {T : TabS} (h : T.Ok) {i : Nat} (hl : T.live i) : T.look (T.set i) = some i := by
  cases hf : T.look (T.set i) with
  | none => exact absurd rfl (look_none h.pos hf hl)
  | some j =>
    obtain ⟨h1, h2, _⟩ := look_some hf
    rw [h.apart j i h1 hl h2]

theorem ok_new (ks : List Key) : (newT ks).Ok := by
  refine ⟨by simp [newT], rfl, fun i j hi hj _ => ?_, fun i hi => ?_, fun i hi => ?_, List.nodup_nil⟩
  · have h : ∀ k, (newT ks).live k → k = 0 := fun k hk => by
      rcases hk with h | ⟨h1, h2⟩
      · exact h
      · simp [newT] at h1; exact h1
    rw [h i hi, h j hj]
  · rcases hi with rfl | ⟨h1, h2⟩
    · exact ⟨by simp [newT, TabS.set], by simp [newT, TabS.set]⟩
    · simp [newT] at h1; subst h1; exact ⟨by simp [newT, TabS.set], by simp [newT, TabS.set]⟩
  · simp [newT] at hi
theorem le_new (ks : List Key) : (newT ks).Le 0 := by
  refine ⟨by simp [newT], by simp [newT], fun i => ?_⟩
  unfold newT TabS.times
  match i with
  | 0 => simp
  | j + 1 => simp

/-- Only how often is other. -/
theorem ok_upd {T : TabS} (h : T.Ok) {i n : Nat} (hl : T.live i) (hn : i = 0 ∨ 0 < n) : (T.upd i ⟨T.set i, n⟩).Ok ∧ (∀ j, (T.upd i ⟨T.set i, n⟩).live j ↔ T.live j) ∧ (∀ j, (T.upd i ⟨T.set i, n⟩).set j = T.set j) := by
  have hi := live_lt hl h.pos
  have hs : ∀ j, (T.upd i ⟨T.set i, n⟩).set j = T.set j := fun j => by
    rw [set_upd]; split
    · rename_i hc; rw [hc.1]
    · rfl
  have hlen : (T.upd i ⟨T.set i, n⟩).es.length = T.es.length := by simp [TabS.upd]
  have hL : ∀ j, (T.upd i ⟨T.set i, n⟩).live j ↔ T.live j := fun j => by
    unfold TabS.live
    rw [times_upd, hlen]
    by_cases hj : j = i
    · subst hj
      rw [if_pos ⟨rfl, hi⟩]
      rcases hl with h0 | h1
      · simp [h0]
      · constructor
        · exact fun _ => .inr h1
        · intro _
          rcases hn with h0 | h2
          · exact .inl h0
          · exact .inr ⟨hi, h2⟩
    · rw [if_neg (fun hc => hj hc.1)]
  refine ⟨⟨by rw [hlen]; exact h.pos, by rw [hs]; exact h.zero, fun a b ha hb he => ?_, fun a ha => ?_, fun a ha => ?_, h.freeN⟩, hL, hs⟩
  · rw [hs, hs] at he; exact h.apart a b ((hL a).1 ha) ((hL b).1 hb) he
  · rw [hs]; exact h.small a ((hL a).1 ha)
  · obtain ⟨h1, h2, h3⟩ := h.freeB a ha
    refine ⟨h1, by rw [hlen]; exact h2, ?_⟩
    rw [times_upd, if_neg]
    · exact h3
    · rintro ⟨rfl, _⟩
      rcases hl with h0 | h0
      · omega
      · omega
theorem le_upd {T : TabS} {n m : Nat} (h : T.Le n) (hm : n ≤ m) (i k : Nat) (hk : k ≤ m) (s : List Att) : (T.upd i ⟨s, k⟩).Le m := by
  refine ⟨by simp [TabS.upd]; have := h.es; omega, by have := h.free; simp [TabS.upd]; omega, fun j => ?_⟩
  rw [times_upd]; split
  · exact hk
  · exact Nat.le_trans (h.times j) hm

/-! ### a set that comes -/
theorem fresh_facts {T : TabS} (h : T.Ok) : T.fresh ≠ 0 ∧ ¬ T.live T.fresh := by
  unfold TabS.fresh
  cases hf : T.free.getLast? with
  | some i =>
    obtain ⟨h1, h2, h3⟩ := h.freeB i (List.mem_of_getLast? hf)
    refine ⟨by simp; omega, ?_⟩
    show ¬ T.live i
    rintro (h0 | ⟨_, h0⟩) <;> omega
  | none =>
    have := h.pos
    refine ⟨show T.es.length ≠ 0 by omega, ?_⟩
    show ¬ T.live T.es.length
    rintro (h0 | ⟨h0, _⟩) <;> omega
theorem getD_ge (l : List Ent) (j : Nat) (h : l.length ≤ j) : l.getD j noEnt = noEnt := by
  simp [List.getD_eq_getElem?_getD, List.getElem?_eq_none h]
theorem set_ins {T : TabS} (h : T.Ok) (x : List Att) (j : Nat) : (T.ins x).set j = if j = T.fresh then x else T.set j := by
  unfold TabS.ins TabS.fresh
  cases hf : T.free.getLast? with
  | some i =>
    obtain ⟨h1, h2, h3⟩ := h.freeB i (List.mem_of_getLast? hf)
    show ((T.es.set i (Ent.mk x 1)).getD j noEnt).set = _
    rw [getD_set]
    by_cases hj : j = i
    · rw [if_pos ⟨hj, h2⟩, if_pos hj]
    · rw [if_neg (fun hc => hj hc.1), if_neg hj]; rfl
  | none =>
    show ((T.es ++ [Ent.mk x 1]).getD j noEnt).set = _
    rw [getD_snoc]
    by_cases hj : j = T.es.length
    · rw [if_pos hj, if_pos hj]
    · rw [if_neg hj, if_neg hj]; rfl
theorem times_ins {T : TabS} (h : T.Ok) (x : List Att) (j : Nat) : (T.ins x).times j = if j = T.fresh then 1 else T.times j := by
  unfold TabS.ins TabS.fresh
  cases hf : T.free.getLast? with
  | some i =>
    obtain ⟨h1, h2, h3⟩ := h.freeB i (List.mem_of_getLast? hf)
    show ((T.es.set i (Ent.mk x 1)).getD j noEnt).n = _
    rw [getD_set]
    by_cases hj : j = i
    · rw [if_pos ⟨hj, h2⟩, if_pos hj]
    · rw [if_neg (fun hc => hj hc.1), if_neg hj]; rfl
  | none =>
    show ((T.es ++ [Ent.mk x 1]).getD j noEnt).n = _
    rw [getD_snoc]
    by_cases hj : j = T.es.length
    · rw [if_pos hj, if_pos hj]
    · rw [if_neg hj, if_neg hj]; rfl
theorem len_ins {T : TabS} (h : T.Ok) (x : List Att) : T.es.length ≤ (T.ins x).es.length ∧ T.fresh < (T.ins x).es.length ∧ (T.ins x).es.length + T.free.length = T.es.length + (T.ins x).free.length + 1 ∧ (T.ins x).es.length ≤ T.es.length + 1 ∧ (T.ins x).free.length ≤ T.free.length := by
  unfold TabS.ins TabS.fresh
  cases hf : T.free.getLast? with
  | some i =>
    obtain ⟨h1, h2, h3⟩ := h.freeB i (List.mem_of_getLast? hf)
    have hp : 0 < T.free.length := List.length_pos_of_mem (List.mem_of_getLast? hf)
    simp
    omega
  | none =>
    have : T.free = [] := by simpa using hf
    simp
    omega
theorem live_ins {T : TabS} (h : T.Ok) (x : List Att) (j : Nat) : (T.ins x).live j ↔ T.live j ∨ j = T.fresh := by
  obtain ⟨l1, l2, l3, l4, l5⟩ := len_ins h x
  obtain ⟨f1, f2⟩ := fresh_facts h
  unfold TabS.live
  rw [times_ins h]
  by_cases hj : j = T.fresh
  · subst hj
    rw [if_pos rfl]
    exact ⟨fun _ => .inr rfl, fun _ => .inr ⟨l2, by omega⟩⟩
  · rw [if_neg hj]
    constructor
    · rintro (h0 | ⟨h1, h2⟩)
      · exact .inl (.inl h0)
      · refine .inl (.inr ⟨?_, h2⟩)
        rcases Nat.lt_or_ge j T.es.length with hlt | hge
        · exact hlt
        · have : T.times j = 0 := by unfold TabS.times; rw [getD_ge _ _ hge]
          omega
    · rintro ((h0 | ⟨h1, h2⟩) | h3)
      · exact .inl h0
      · exact .inr ⟨by omega, h2⟩
      · exact absurd h3 hj
theorem nodup_dropLast {l : List Nat} (h : l.Nodup) : l.dropLast.Nodup := h.sublist (List.dropLast_sublist l)
theorem last_not {l : List Nat} {i : Nat} (h : l.Nodup) (hi : l.getLast? = some i) : i ∉ l.dropLast := by
  obtain ⟨m, rfl⟩ := List.getLast?_eq_some_iff.1 hi
  intro hm
  rw [List.dropLast_concat] at hm
  exact (List.nodup_append.1 h).2.2 i hm i (by simp) rfl
theorem free_ins {T : TabS} (h : T.Ok) (x : List Att) : (T.ins x).free.Nodup ∧ ∀ j ∈ (T.ins x).free, j ∈ T.free ∧ j ≠ T.fresh := by
  unfold TabS.ins TabS.fresh
  cases hf : T.free.getLast? with
  | some i =>
    refine ⟨nodup_dropLast h.freeN, fun j hj => ⟨(List.dropLast_sublist _).subset hj, ?_⟩⟩
    rintro rfl
    exact last_not h.freeN hf hj
  | none =>
    have e : T.free = [] := by simpa using hf
    refine ⟨h.freeN, fun j hj => ?_⟩
    have hj' : j ∈ T.free := hj
    rw [e] at hj'
    cases hj'
theorem ok_ins {T : TabS} (h : T.Ok) {x : List Att} (hx : Small x) (hn : T.look x = none) : (T.ins x).Ok := by
  obtain ⟨l1, l2, l3, l4, l5⟩ := len_ins h x
  obtain ⟨f1, f2⟩ := fresh_facts h
  obtain ⟨n1, n2⟩ := free_ins h x
  have hp := h.pos
  refine ⟨by omega, by rw [set_ins h, if_neg (Ne.symm f1)]; exact h.zero, fun i j hi hj he => ?_, fun i hi => ?_, fun i hi => ?_, n1⟩
  · rw [live_ins h] at hi hj
    rw [set_ins h, set_ins h] at he
    by_cases h1 : i = T.fresh <;> by_cases h2 : j = T.fresh
    · rw [h1, h2]
    · rw [if_pos h1, if_neg h2] at he
      rcases hj with hj | hj
      · exact absurd he.symm (look_none h.pos hn hj)
      · exact absurd hj h2
    · rw [if_neg h1, if_pos h2] at he
      rcases hi with hi | hi
      · exact absurd he (look_none h.pos hn hi)
      · exact absurd hi h1
    · rw [if_neg h1, if_neg h2] at he
      exact h.apart i j (hi.resolve_right h1) (hj.resolve_right h2) he
  · rw [set_ins h]
    rw [live_ins h] at hi
    split
    · exact hx
    · rename_i h1
      exact h.small i (hi.resolve_right h1)
  · obtain ⟨m1, m2⟩ := n2 i hi
    obtain ⟨b1, b2, b3⟩ := h.freeB i m1
    exact ⟨b1, by omega, by rw [times_ins h, if_neg m2]; exact b3⟩
theorem le_ins {T : TabS} (h : T.Ok) {n : Nat} (hl : T.Le n) (x : List Att) : (T.ins x).Le (n + 1) := by
  obtain ⟨l1, l2, l3, l4, l5⟩ := len_ins h x
  refine ⟨by have := hl.es; omega, by have := hl.free; omega, fun j => ?_⟩
  rw [times_ins h]; split
  · omega
  · have := hl.times j; omega

/-! ### a set that goes -/
def TabS.out (T : TabS) (i : Nat) : TabS := ⟨T.ks, T.es.set i noEnt, T.free ++ [i]⟩
theorem less_out {T : TabS} {i : Nat} (h0 : i ≠ 0) (h1 : T.times i = 1) : T.less i = T.out i := by unfold TabS.less TabS.out; rw [if_pos ⟨h0, h1⟩]
theorem less_upd {T : TabS} {i : Nat} (h : ¬ (i ≠ 0 ∧ T.times i = 1)) : T.less i = T.upd i ⟨T.set i, T.times i - 1⟩ := by unfold TabS.less; rw [if_neg h]
theorem set_out (T : TabS) (i j : Nat) : (T.out i).set j = if j = i then [] else T.set j := by
  unfold TabS.out TabS.set
  rw [getD_set]
  by_cases hj : j = i
  · subst hj
    rw [if_pos rfl]
    split
    · rfl
    · rename_i hc
      rw [getD_ge _ _ (by omega)]
  · rw [if_neg (fun hc => hj hc.1), if_neg hj]
theorem times_out (T : TabS) (i j : Nat) : (T.out i).times j = if j = i then 0 else T.times j := by
  unfold TabS.out TabS.times
  rw [getD_set]
  by_cases hj : j = i
  · subst hj
    rw [if_pos rfl]
    split
    · rfl
    · rename_i hc
      rw [getD_ge _ _ (by omega)]
  · rw [if_neg (fun hc => hj hc.1), if_neg hj]
theorem live_out {T : TabS} {i : Nat} (h0 : i ≠ 0) (j : Nat) : (T.out i).live j ↔ T.live j ∧ j ≠ i := by
  unfold TabS.live
  rw [times_out]
  have e : (T.out i).es.length = T.es.length := by simp [TabS.out]
  rw [e]
  by_cases hj : j = i
  · subst hj; simp [h0]
  · rw [if_neg hj]; simp [hj]
theorem ok_out {T : TabS} (h : T.Ok) {i : Nat} (h0 : i ≠ 0) (hl : T.live i) : (T.out i).Ok := by
  have e : (T.out i).es.length = T.es.length := by simp [TabS.out]
  refine ⟨by rw [e]; exact h.pos, by rw [set_out, if_neg (Ne.symm h0)]; exact h.zero, fun a b ha hb he => ?_, fun a ha => ?_, fun a ha => ?_, ?_⟩
  · rw [live_out h0] at ha hb
    rw [set_out, set_out, if_neg ha.2, if_neg hb.2] at he
    exact h.apart a b ha.1 hb.1 he
  · rw [live_out h0] at ha
    rw [set_out, if_neg ha.2]
    exact h.small a ha.1
  · rw [e, times_out]
    rcases List.mem_append.1 ha with ha | ha
    · obtain ⟨b1, b2, b3⟩ := h.freeB a ha
      exact ⟨b1, b2, by split; rfl; exact b3⟩
    · obtain rfl := List.mem_singleton.1 ha
      exact ⟨by omega, live_lt hl h.pos, by rw [if_pos rfl]⟩
  · refine List.nodup_append.2 ⟨h.freeN, by simp, fun a ha b hb => ?_⟩
    obtain rfl := List.mem_singleton.1 hb
    rintro rfl
    have := (h.freeB a ha).2.2
    rcases hl with hl | hl
    · exact h0 hl
    · omega
theorem le_out {T : TabS} {n : Nat} (hl : T.Le n) (i : Nat) : (T.out i).Le (n + 1) := by
  refine ⟨by simp [TabS.out]; have := hl.es; omega, by simp [TabS.out]; have := hl.free; omega, fun j => ?_⟩
  rw [times_out]; split
  · omega
  · have := hl.times j; omega

/-! ### what the map of texts says -/
structure Ids {H : Type} (D : DataW H) (T : TabS) : Prop where
  tidy : Maps.Tidy D
  at_ : ∀ i, T.live i → ∀ z, D.atKey (.string (txt (T.set i))) z = .lit (.int .i64 i)
  has_ : ∀ i, T.live i → Maps.has D (.string (txt (T.set i))) = true
  only : ∀ s, Maps.has D (.string s) = true → ∃ i, T.live i ∧ s = txt (T.set i)
  size : Maps.size D + T.free.length = T.es.length
theorem str_key (s : List UInt8) : WideAt.IsKeyLit (.string s) := trivial
theorem Small.atts {x : List Att} (h : Small x) : ∀ a ∈ x, AttW a := fun a ha => (h.2 a ha).1
/-- Is a set there? -/
theorem Ids.look {H : Type} {D : DataW H} {T : TabS} (h : Ids D T) (hT : T.Ok) {x : List Att} (hx : Small x) : Maps.has D (.string (txt x)) = (T.look x).isSome := by
  cases hf : T.look x with
  | some i =>
    obtain ⟨h1, h2, _⟩ := look_some hf
    have := h.has_ i h1
    rw [h2] at this
    simp [this]
  | none =>
    cases hh : Maps.has D (.string (txt x)) with
    | false => rfl
    | true =>
      obtain ⟨i, hl, he⟩ := h.only _ hh
      have := txt_inj hx.atts (hT.small i hl).atts he
      exact absurd this.symm (look_none hT.pos hf hl)
theorem Ids.same {H : Type} {D : DataW H} {T T' : TabS} (h : Ids D T) (hl : ∀ j, T'.live j ↔ T.live j) (hs : ∀ j, T'.set j = T.set j) (he : T'.es.length = T.es.length) (hf : T'.free.length = T.free.length) : Ids D T' := by
  refine ⟨h.tidy, fun i hi z => ?_, fun i hi => ?_, fun s h1 => ?_, by rw [he, hf]; exact h.size⟩
  · rw [hs]; exact h.at_ i ((hl i).1 hi) z
  · rw [hs]; exact h.has_ i ((hl i).1 hi)
  · obtain ⟨i, h2, h3⟩ := h.only s h1
    exact ⟨i, (hl i).2 h2, by rw [hs]; exact h3⟩
theorem Ids.ins {H : Type} {D : DataW H} {T : TabS} (h : Ids D T) (hT : T.Ok) {x : List Att} (hx : Small x) (hn : T.look x = none) : Ids (D.put (.string (txt x)) (.lit (.int .i64 T.fresh))) (T.ins x) := by
  obtain ⟨l1, l2, l3, l4, l5⟩ := len_ins hT x
  obtain ⟨f1, f2⟩ := fresh_facts hT
  have ne : ∀ j, T.live j → (Lit.string (txt (T.set j))) ≠ .string (txt x) := fun j hj e => by
    injection e with e
    exact look_none hT.pos hn hj (txt_inj (hT.small j hj).atts hx.atts e)
  have h0 : Maps.has D (.string (txt x)) = false := by rw [h.look hT hx, hn]; rfl
  refine ⟨h.tidy.put (str_key _) _, fun i hi z => ?_, fun i hi => ?_, fun s h1 => ?_, ?_⟩
  · rw [live_ins hT] at hi
    rw [set_ins hT]
    split
    · rename_i e; subst e; exact Maps.atKey_put_same h.tidy.isMap (str_key _) _ _
    · rename_i e
      have hi := hi.resolve_right e
      rw [Maps.atKey_put_other (ne i hi)]
      exact h.at_ i hi z
  · rw [live_ins hT] at hi
    rw [set_ins hT]
    split
    · exact Maps.has_put_same h.tidy.isMap (str_key _) _
    · rename_i e
      have hi := hi.resolve_right e
      rw [Maps.has_put_other (ne i hi)]
      exact h.has_ i hi
  · by_cases e : s = txt x
    · exact ⟨T.fresh, (live_ins hT x _).2 (.inr rfl), by rw [set_ins hT, if_pos rfl]; exact e⟩
    · rw [Maps.has_put_other (fun e2 => e (by injection e2))] at h1
      obtain ⟨i, h2, h3⟩ := h.only s h1
      refine ⟨i, (live_ins hT x _).2 (.inl h2), ?_⟩
      rw [set_ins hT, if_neg (fun (e : i = T.fresh) => f2 (e ▸ h2))]
      exact h3
  · rw [Maps.size_put h.tidy, h0]
    have := h.size
    simp only [Bool.false_eq_true, if_false]
    omega
theorem Ids.out {H : Type} {D : DataW H} {T : TabS} (h : Ids D T) (hT : T.Ok) {i : Nat} (h0 : i ≠ 0) (hl : T.live i) : Ids (D.del (.string (txt (T.set i)))) (T.out i) := by
  have ne : ∀ j, T.live j → j ≠ i → (Lit.string (txt (T.set j))) ≠ .string (txt (T.set i)) := fun j hj hne e => by
    injection e with e
    exact hne (hT.apart j i hj hl (txt_inj (hT.small j hj).atts (hT.small i hl).atts e))
  refine ⟨h.tidy.del _, fun j hj z => ?_, fun j hj => ?_, fun s h1 => ?_, ?_⟩
  · rw [live_out h0] at hj
    rw [set_out, if_neg hj.2, Maps.atKey_del_other (ne j hj.1 hj.2)]
    exact h.at_ j hj.1 z
  · rw [live_out h0] at hj
    rw [set_out, if_neg hj.2, Maps.has_del_other (ne j hj.1 hj.2)]
    exact h.has_ j hj.1
  · by_cases e : s = txt (T.set i)
    · subst e
      rw [Maps.has_del_same] at h1
      cases h1
    · rw [Maps.has_del_other (fun e2 => e (by injection e2))] at h1
      obtain ⟨j, h2, h3⟩ := h.only s h1
      have hne : j ≠ i := fun e2 => e (by rw [h3, e2])
      refine ⟨j, (live_out h0 j).2 ⟨h2, hne⟩, ?_⟩
      rw [set_out, if_neg hne]
      exact h3
  · have h1 := Maps.size_del h.tidy (k := .string (txt (T.set i)))
    rw [h.has_ i hl] at h1
    have h2 := h.size
    have e : (T.out i).es.length = T.es.length := by simp [TabS.out]
    have e2 : (T.out i).free.length = T.free.length + 1 := by simp [TabS.out]
    simp only [if_true] at h1
    omega
end Go.Proofs.YtiobcifpebehnaaDoor
