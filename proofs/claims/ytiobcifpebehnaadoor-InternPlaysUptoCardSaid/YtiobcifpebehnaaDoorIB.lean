
import Derived.Test.YtiobcifpebehnaaDoorIA
import Derived.Test.YtiobcifpebehnaaDoorS1
import Derived.Maps.OwnSet
import Derived.Test.YtiobcifpebehnaaDoorS5
/- I5 -/
/- I5: a table as plain data -/
namespace Go.Proofs.YtiobcifpebehnaaDoor
open Go.RowKit
set_option linter.unusedVariables false

/-- A place of the table: its set, and how often it is held. -/
structure Ent where
  set : List Att
  n : Nat
@[reducible] def noEnt : Ent := ⟨[], 0⟩
/-- A table: its schema's keys, its places by ids, the ids that are free, the one freed last at the end. -/
structure TabS where
  ks : List Key
  es : List Ent
  free : List Nat

def TabS.set (T : TabS) (i : Nat) : List Att := (T.es.getD i noEnt).set
def TabS.times (T : TabS) (i : Nat) : Nat := (T.es.getD i noEnt).n
def TabS.live (T : TabS) (i : Nat) : Prop := i = 0 ∨ (i < T.es.length ∧ 0 < T.times i)
instance (T : TabS) (i : Nat) : Decidable (T.live i) := inferInstanceAs (Decidable (i = 0 ∨ (i < T.es.length ∧ 0 < T.times i)))
def TabS.has (T : TabS) (id : Int) : Bool := decide (id = 0 ∨ (0 < id ∧ id < T.es.length ∧ 0 < T.times id.toNat))
theorem has_live {T : TabS} {id : Int} (h : T.has id = true) : ∃ i : Nat, id = i ∧ T.live i := by
  unfold TabS.has at h
  rw [decide_eq_true_iff] at h
  rcases h with rfl | ⟨h1, h2, h3⟩
  · exact ⟨0, rfl, .inl rfl⟩
  · exact ⟨id.toNat, by omega, .inr ⟨by omega, h3⟩⟩
theorem live_has {T : TabS} {i : Nat} (h : T.live i) : T.has (i : Int) = true := by
  unfold TabS.has
  rw [decide_eq_true_iff]
  rcases h with rfl | ⟨h1, h2⟩
  · exact .inl rfl
  · rcases Nat.eq_zero_or_pos i with rfl | hp
    · exact .inl rfl
    · exact .inr ⟨by omega, by omega, by simpa using h2⟩
def TabS.look (T : TabS) (x : List Att) : Option Nat := (List.range T.es.length).find? fun i => decide (T.live i ∧ T.set i = x)
theorem look_some {T : TabS} {x : List Att} {i : Nat} (h : T.look x = some i) : T.live i ∧ T.set i = x ∧ i < T.es.length := by
  unfold TabS.look at h
  have h1 := List.find?_some h
  have h2 := List.mem_range.1 (List.mem_of_find?_eq_some h)
  rw [decide_eq_true_iff] at h1
  exact ⟨h1.1, h1.2, h2⟩

def TabS.upd (T : TabS) (i : Nat) (e : Ent) : TabS := ⟨T.ks, T.es.set i e, T.free⟩
def TabS.bump (T : TabS) (i : Nat) : TabS := T.upd i ⟨T.set i, T.times i + 1⟩
/-- The id that a set which is not there gets, and the table with it. -/
def TabS.fresh (T : TabS) : Nat := match T.free.getLast? with
  | some i => i
  | none => T.es.length
def TabS.ins (T : TabS) (x : List Att) : TabS := match T.free.getLast? with
  | some i => ⟨T.ks, T.es.set i ⟨x, 1⟩, T.free.dropLast⟩
  | none => ⟨T.ks, T.es ++ [⟨x, 1⟩], T.free⟩
def TabS.add (T : TabS) (x : List Att) : TabS := match T.look x with
  | some i => T.bump i
  | none => T.ins x
def TabS.idOf (T : TabS) (x : List Att) : Nat := match T.look x with
  | some i => i
  | none => T.fresh
/-- Held once less. -/
def TabS.less (T : TabS) (i : Nat) : TabS := if i ≠ 0 ∧ T.times i = 1 then ⟨T.ks, T.es.set i noEnt, T.free ++ [i]⟩ else T.upd i ⟨T.set i, T.times i - 1⟩
def TabS.len (T : TabS) : Nat := T.es.length - T.free.length
def newT (ks : List Key) : TabS := ⟨ks, [noEnt], []⟩

/-! ### places -/
theorem getD_set (l : List Ent) (i j : Nat) (e : Ent) : (l.set i e).getD j noEnt = if j = i ∧ i < l.length then e else l.getD j noEnt := by
  simp only [List.getD_eq_getElem?_getD, List.getElem?_set]
  by_cases h : i = j
  · subst h
    by_cases h2 : i < l.length
    · simp [h2]
    · simp [h2]
  · have : ¬ j = i := fun e => h e.symm
    simp [h, this]
theorem getD_snoc (l : List Ent) (j : Nat) (e : Ent) : (l ++ [e]).getD j noEnt = if j = l.length then e else l.getD j noEnt := by
  simp only [List.getD_eq_getElem?_getD]
  by_cases h : j = l.length
  · subst h; simp
  · rw [if_neg h]
    by_cases h2 : j < l.length
    · rw [List.getElem?_append_left h2]
    · rw [List.getElem?_eq_none (by simp; omega), List.getElem?_eq_none (by omega)]
theorem set_upd (T : TabS) (i j : Nat) (e : Ent) : (T.upd i e).set j = if j = i ∧ i < T.es.length then e.set else T.set j := by
  unfold TabS.set TabS.upd; rw [getD_set]; split <;> rfl
theorem times_upd (T : TabS) (i j : Nat) (e : Ent) : (T.upd i e).times j = if j = i ∧ i < T.es.length then e.n else T.times j := by
  unfold TabS.times TabS.upd; rw [getD_set]; split <;> rfl
theorem live_lt {T : TabS} {i : Nat} (h : T.live i) (h0 : 0 < T.es.length) : i < T.es.length := by
  rcases h with rfl | h
  · exact h0
  · exact h.1

/-- What is true of a table. -/
structure TabS.Ok (T : TabS) : Prop where
  pos : 0 < T.es.length
  zero : T.set 0 = []
  apart : ∀ i j, T.live i → T.live j → T.set i = T.set j → i = j
  small : ∀ i, T.live i → Small (T.set i)
  freeB : ∀ i ∈ T.free, 0 < i ∧ i < T.es.length ∧ T.times i = 0
  freeN : T.free.Nodup
/-- Nothing is greater than the number of calls. -/
structure TabS.Le (T : TabS) (n : Nat) : Prop where
  es : T.es.length ≤ n + 1
  free : T.free.length ≤ n
  times : ∀ i, T.times i ≤ n
theorem TabS.Le.mono {T : TabS} {n m : Nat} (h : T.Le n) (hm : n ≤ m) : T.Le m := ⟨by have := h.es; omega, by have := h.free; omega, fun i => Nat.le_trans (h.times i) hm⟩

theorem look_none {T : TabS} (hT : 0 < T.es.length) {x : List Att} (h : T.look x = none) {i : Nat} (hl : T.live i) : T.set i ≠ x := by
  unfold TabS.look at h
  have h1 := List.find?_eq_none.1 h i (List.mem_range.2 (live_lt hl hT))
  simp only [decide_eq_true_iff] at h1
  exact fun e => h1 ⟨hl, e⟩
theorem look_live {T : TabS} (h : T.Ok) {i : Nat} (hl : T.live i) : T.look (T.set i) = some i := by
  cases hf : T.look (T.set i) with
  | none => exact absurd rfl (look_none h.pos hf hl)
  | some j =>
    obtain ⟨h1, h2, _⟩ := look_some hf
    rw [h.apart j i h1 hl h2]

theorem ok_new (ks : List Key) : (newT ks).Ok := by
  refine ⟨by simp [newT], rfl, fun i j hi hj _ => ?_, fun i hi => ?_, fun i hi => ?_, List.nodup_nil⟩
  · have h : ∀ k, (newT ks).live k → k = 0 := fun k hk => by
      rcases hk with h | ⟨h1, h2⟩
      · exact h
      · simp [newT] at h1; exact h1
    rw [h i hi, h j hj]
  · rcases hi with rfl | ⟨h1, h2⟩
    · exact ⟨by simp [newT, TabS.set], by simp [newT, TabS.set]⟩
    · simp [newT] at h1; subst h1; exact ⟨by simp [newT, TabS.set], by simp [newT, TabS.set]⟩
  · simp [newT] at hi
theorem le_new (ks : List Key) : (newT ks).Le 0 := by
  refine ⟨by simp [newT], by simp [newT], fun i => ?_⟩
  unfold newT TabS.times
  match i with
  | 0 => simp
  | j + 1 => simp

/-- Only how often is other. -/
theorem ok_upd {T : TabS} (h : T.Ok) {i n : Nat} (hl : T.live i) (hn : i = 0 ∨ 0 < n) : (T.upd i ⟨T.set i, n⟩).Ok ∧ (∀ j, (T.upd i ⟨T.set i, n⟩).live j ↔ T.live j) ∧ (∀ j, (T.upd i ⟨T.set i, n⟩).set j = T.set j) := by
  have hi := live_lt hl h.pos
  have hs : ∀ j, (T.upd i ⟨T.set i, n⟩).set j = T.set j := fun j => by
    rw [set_upd]; split
    · rename_i hc; rw [hc.1]
    · rfl
  have hlen : (T.upd i ⟨T.set i, n⟩).es.length = T.es.length := by simp [TabS.upd]
  have hL : ∀ j, (T.upd i ⟨T.set i, n⟩).live j ↔ T.live j := fun j => by
    unfold TabS.live
    rw [times_upd, hlen]
    by_cases hj : j = i
    · subst hj
      rw [if_pos ⟨rfl, hi⟩]
      rcases hl with h0 | h1
      · simp [h0]
      · constructor
        · exact fun _ => .inr h1
        · intro _
          rcases hn with h0 | h2
          · exact .inl h0
          · exact .inr ⟨hi, h2⟩
    · rw [if_neg (fun hc => hj hc.1)]
  refine ⟨⟨by rw [hlen]; exact h.pos, by rw [hs]; exact h.zero, fun a b ha hb he => ?_, fun a ha => ?_, fun a ha => ?_, h.freeN⟩, hL, hs⟩
  · rw [hs, hs] at he; exact h.apart a b ((hL a).1 ha) ((hL b).1 hb) he
  · rw [hs]; exact h.small a ((hL a).1 ha)
  · obtain ⟨h1, h2, h3⟩ := h.freeB a ha
    refine ⟨h1, by rw [hlen]; exact h2, ?_⟩
    rw [times_upd, if_neg]
    · exact h3
    · rintro ⟨rfl, _⟩
      rcases hl with h0 | h0
      · omega
      · omega
theorem le_upd {T : TabS} {n m : Nat} (h : T.Le n) (hm : n ≤ m) (i k : Nat) (hk : k ≤ m) (s : List Att) : (T.upd i ⟨s, k⟩).Le m := by
  refine ⟨by simp [TabS.upd]; have := h.es; omega, by have := h.free; simp [TabS.upd]; omega, fun j => ?_⟩
  rw [times_upd]; split
  · exact hk
  · exact Nat.le_trans (h.times j) hm

/-! ### a set that comes -/
theorem fresh_facts {T : TabS} (h : T.Ok) : T.fresh ≠ 0 ∧ ¬ T.live T.fresh := by
  unfold TabS.fresh
  cases hf : T.free.getLast? with
  | some i =>
    obtain ⟨h1, h2, h3⟩ := h.freeB i (List.mem_of_getLast? hf)
    refine ⟨by simp; omega, ?_⟩
    show ¬ T.live i
    rintro (h0 | ⟨_, h0⟩) <;> omega
  | none =>
    have := h.pos
    refine ⟨show T.es.length ≠ 0 by omega, ?_⟩
    show ¬ T.live T.es.length
    rintro (h0 | ⟨h0, _⟩) <;> omega
theorem getD_ge (l : List Ent) (j : Nat) (h : l.length ≤ j) : l.getD j noEnt = noEnt := by
  simp [List.getD_eq_getElem?_getD, List.getElem?_eq_none h]
theorem set_ins {T : TabS} (h : T.Ok) (x : List Att) (j : Nat) : (T.ins x).set j = if j = T.fresh then x else T.set j := by
  unfold TabS.ins TabS.fresh
  cases hf : T.free.getLast? with
  | some i =>
    obtain ⟨h1, h2, h3⟩ := h.freeB i (List.mem_of_getLast? hf)
    show ((T.es.set i (Ent.mk x 1)).getD j noEnt).set = _
    rw [getD_set]
    by_cases hj : j = i
    · rw [if_pos ⟨hj, h2⟩, if_pos hj]
    · rw [if_neg (fun hc => hj hc.1), if_neg hj]; rfl
  | none =>
    show ((T.es ++ [Ent.mk x 1]).getD j noEnt).set = _
    rw [getD_snoc]
    by_cases hj : j = T.es.length
    · rw [if_pos hj, if_pos hj]
    · rw [if_neg hj, if_neg hj]; rfl
theorem times_ins {T : TabS} (h : T.Ok) (x : List Att) (j : Nat) : (T.ins x).times j = if j = T.fresh then 1 else T.times j := by
  unfold TabS.ins TabS.fresh
  cases hf : T.free.getLast? with
  | some i =>
    obtain ⟨h1, h2, h3⟩ := h.freeB i (List.mem_of_getLast? hf)
    show ((T.es.set i (Ent.mk x 1)).getD j noEnt).n = _
    rw [getD_set]
    by_cases hj : j = i
    · rw [if_pos ⟨hj, h2⟩, if_pos hj]
    · rw [if_neg (fun hc => hj hc.1), if_neg hj]; rfl
  | none =>
    show ((T.es ++ [Ent.mk x 1]).getD j noEnt).n = _
    rw [getD_snoc]
    by_cases hj : j = T.es.length
    · rw [if_pos hj, if_pos hj]
    · rw [if_neg hj, if_neg hj]; rfl
theorem len_ins {T : TabS} (h : T.Ok) (x : List Att) : T.es.length ≤ (T.ins x).es.length ∧ T.fresh < (T.ins x).es.length ∧ (T.ins x).es.length + T.free.length = T.es.length + (T.ins x).free.length + 1 ∧ (T.ins x).es.length ≤ T.es.length + 1 ∧ (T.ins x).free.length ≤ T.free.length := by
  unfold TabS.ins TabS.fresh
  cases hf : T.free.getLast? with
  | some i =>
    obtain ⟨h1, h2, h3⟩ := h.freeB i (List.mem_of_getLast? hf)
    have hp : 0 < T.free.length := List.length_pos_of_mem (List.mem_of_getLast? hf)
    simp
    omega
  | none =>
    have : T.free = [] := by simpa using hf
    simp
    omega
theorem live_ins {T : TabS} (h : T.Ok) (x : List Att) (j : Nat) : (T.ins x).live j ↔ T.live j ∨ j = T.fresh := by
  obtain ⟨l1, l2, l3, l4, l5⟩ := len_ins h x
  obtain ⟨f1, f2⟩ := fresh_facts h
  unfold TabS.live
  rw [times_ins h]
  by_cases hj : j = T.fresh
  · subst hj
    rw [if_pos rfl]
    exact ⟨fun _ => .inr rfl, fun _ => .inr ⟨l2, by omega⟩⟩
  · rw [if_neg hj]
    constructor
    · rintro (h0 | ⟨h1, h2⟩)
      · exact .inl (.inl h0)
      · refine .inl (.inr ⟨?_, h2⟩)
        rcases Nat.lt_or_ge j T.es.length with hlt | hge
        · exact hlt
        · have : T.times j = 0 := by unfold TabS.times; rw [getD_ge _ _ hge]
          omega
    · rintro ((h0 | ⟨h1, h2⟩) | h3)
      · exact .inl h0
      · exact .inr ⟨by omega, h2⟩
      · exact absurd h3 hj
theorem nodup_dropLast {l : List Nat} (h : l.Nodup) : l.dropLast.Nodup := h.sublist (List.dropLast_sublist l)
theorem last_not {l : List Nat} {i : Nat} (h : l.Nodup) (hi : l.getLast? = some i) : i ∉ l.dropLast := by
  obtain ⟨m, rfl⟩ := List.getLast?_eq_some_iff.1 hi
  intro hm
  rw [List.dropLast_concat] at hm
  exact (List.nodup_append.1 h).2.2 i hm i (by simp) rfl
theorem free_ins {T : TabS} (h : T.Ok) (x : List Att) : (T.ins x).free.Nodup ∧ ∀ j ∈ (T.ins x).free, j ∈ T.free ∧ j ≠ T.fresh := by
  unfold TabS.ins TabS.fresh
  cases hf : T.free.getLast? with
  | some i =>
    refine ⟨nodup_dropLast h.freeN, fun j hj => ⟨(List.dropLast_sublist _).subset hj, ?_⟩⟩
    rintro rfl
    exact last_not h.freeN hf hj
  | none =>
    have e : T.free = [] := by simpa using hf
    refine ⟨h.freeN, fun j hj => ?_⟩
    have hj' : j ∈ T.free := hj
    rw [e] at hj'
    cases hj'
theorem ok_ins {T : TabS} (h : T.Ok) {x : List Att} (hx : Small x) (hn : T.look x = none) : (T.ins x).Ok := by
  obtain ⟨l1, l2, l3, l4, l5⟩ := len_ins h x
  obtain ⟨f1, f2⟩ := fresh_facts h
  obtain ⟨n1, n2⟩ := free_ins h x
  have hp := h.pos
  refine ⟨by omega, by rw [set_ins h, if_neg (Ne.symm f1)]; exact h.zero, fun i j hi hj he => ?_, fun i hi => ?_, fun i hi => ?_, n1⟩
  · rw [live_ins h] at hi hj
    rw [set_ins h, set_ins h] at he
    by_cases h1 : i = T.fresh <;> by_cases h2 : j = T.fresh
    · rw [h1, h2]
    · rw [if_pos h1, if_neg h2] at he
      rcases hj with hj | hj
      · exact absurd he.symm (look_none h.pos hn hj)
      · exact absurd hj h2
    · rw [if_neg h1, if_pos h2] at he
      rcases hi with hi | hi
      · exact absurd he (look_none h.pos hn hi)
      · exact absurd hi h1
    · rw [if_neg h1, if_neg h2] at he
      exact h.apart i j (hi.resolve_right h1) (hj.resolve_right h2) he
  · rw [set_ins h]
    rw [live_ins h] at hi
    split
    · exact hx
    · rename_i h1
      exact h.small i (hi.resolve_right h1)
  · obtain ⟨m1, m2⟩ := n2 i hi
    obtain ⟨b1, b2, b3⟩ := h.freeB i m1
    exact ⟨b1, by omega, by rw [times_ins h, if_neg m2]; exact b3⟩
theorem le_ins {T : TabS} (h : T.Ok) {n : Nat} (hl : T.Le n) (x : List Att) : (T.ins x).Le (n + 1) := by
  obtain ⟨l1, l2, l3, l4, l5⟩ := len_ins h x
  refine ⟨by have := hl.es; omega, by have := hl.free; omega, fun j => ?_⟩
  rw [times_ins h]; split
  · omega
  · have := hl.times j; omega

/-! ### a set that goes -/
def TabS.out (T : TabS) (i : Nat) : TabS := ⟨T.ks, T.es.set i noEnt, T.free ++ [i]⟩
theorem less_out {T : TabS} {i : Nat} (h0 : i ≠ 0) (h1 : T.times i = 1) : T.less i = T.out i := by unfold TabS.less TabS.out; rw [if_pos ⟨h0, h1⟩]
theorem less_upd {T : TabS} {i : Nat} (h : ¬ (i ≠ 0 ∧ T.times i = 1)) : T.less i = T.upd i ⟨T.set i, T.times i - 1⟩ := by unfold TabS.less; rw [if_neg h]
theorem set_out (T : TabS) (i j : Nat) : (T.out i).set j = if j = i then [] else T.set j := by
  unfold TabS.out TabS.set
  rw [getD_set]
  by_cases hj : j = i
  · subst hj
    rw [if_pos rfl]
    split
    · rfl
    · rename_i hc
      rw [getD_ge _ _ (by omega)]
  · rw [if_neg (fun hc => hj hc.1), if_neg hj]
theorem times_out (T : TabS) (i j : Nat) : (T.out i).times j = if j = i then 0 else T.times j := by
  unfold TabS.out TabS.times
  rw [getD_set]
  by_cases hj : j = i
  · subst hj
    rw [if_pos rfl]
    split
    · rfl
    · rename_i hc
      rw [getD_ge _ _ (by omega)]
  · rw [if_neg (fun hc => hj hc.1), if_neg hj]
theorem live_out {T : TabS} {i : Nat} (h0 : i ≠ 0) (j : Nat) : (T.out i).live j ↔ T.live j ∧ j ≠ i := by
  unfold TabS.live
  rw [times_out]
  have e : (T.out i).es.length = T.es.length := by simp [TabS.out]
  rw [e]
  by_cases hj : j = i
  · subst hj; simp [h0]
  · rw [if_neg hj]; simp [hj]
theorem ok_out {T : TabS} (h : T.Ok) {i : Nat} (h0 : i ≠ 0) (hl : T.live i) : (T.out i).Ok := by
  have e : (T.out i).es.length = T.es.length := by simp [TabS.out]
  refine ⟨by rw [e]; exact h.pos, by rw [set_out, if_neg (Ne.symm h0)]; exact h.zero, fun a b ha hb he => ?_, fun a ha => ?_, fun a ha => ?_, ?_⟩
  · rw [live_out h0] at ha hb
    rw [set_out, set_out, if_neg ha.2, if_neg hb.2] at he
    exact h.apart a b ha.1 hb.1 he
  · rw [live_out h0] at ha
    rw [set_out, if_neg ha.2]
    exact h.small a ha.1
  · rw [e, times_out]
    rcases List.mem_append.1 ha with ha | ha
    · obtain ⟨b1, b2, b3⟩ := h.freeB a ha
      exact ⟨b1, b2, by split; rfl; exact b3⟩
    · obtain rfl := List.mem_singleton.1 ha
      exact ⟨by omega, live_lt hl h.pos, by rw [if_pos rfl]⟩
  · refine List.nodup_append.2 ⟨h.freeN, by simp, fun a ha b hb => ?_⟩
    obtain rfl := List.mem_singleton.1 hb
    rintro rfl
    have := (h.freeB a ha).2.2
    rcases hl with hl | hl
    · exact h0 hl
    · omega
theorem le_out {T : TabS} {n : Nat} (hl : T.Le n) (i : Nat) : (T.out i).Le (n + 1) := by
  refine ⟨by simp [TabS.out]; have := hl.es; omega, by simp [TabS.out]; have := hl.free; omega, fun j => ?_⟩
  rw [times_out]; split
  · omega
  · have := hl.times j; omega

/-! ### what the map of texts says -/
structure Ids {H : Type} (D : DataW H) (T : TabS) : Prop where
  tidy : Maps.Tidy D
  at_ : ∀ i, T.live i → ∀ z, D.atKey (.string (txt (T.set i))) z = .lit (.int .i64 i)
  has_ : ∀ i, T.live i → Maps.has D (.string (txt (T.set i))) = true
  only : ∀ s, Maps.has D (.string s) = true → ∃ i, T.live i ∧ s = txt (T.set i)
  size : Maps.size D + T.free.length = T.es.length
theorem str_key (s : List UInt8) : WideAt.IsKeyLit (.string s) := trivial
theorem Small.atts {x : List Att} (h : Small x) : ∀ a ∈ x, AttW a := fun a ha => (h.2 a ha).1
/-- Is a set there? -/
theorem Ids.look {H : Type} {D : DataW H} {T : TabS} (h : Ids D T) (hT : T.Ok) {x : List Att} (hx : Small x) : Maps.has D (.string (txt x)) = (T.look x).isSome := by
  cases hf : T.look x with
  | some i =>
    obtain ⟨h1, h2, _⟩ := look_some hf
    have := h.has_ i h1
    rw [h2] at this
    simp [this]
  | none =>
    cases hh : Maps.has D (.string (txt x)) with
    | false => rfl
    | true =>
      obtain ⟨i, hl, he⟩ := h.only _ hh
      have := txt_inj hx.atts (hT.small i hl).atts he
      exact absurd this.symm (look_none hT.pos hf hl)
theorem Ids.same {H : Type} {D : DataW H} {T T' : TabS} (h : Ids D T) (hl : ∀ j, T'.live j ↔ T.live j) (hs : ∀ j, T'.set j = T.set j) (he : T'.es.length = T.es.length) (hf : T'.free.length = T.free.length) : Ids D T' := by
  refine ⟨h.tidy, fun i hi z => ?_, fun i hi => ?_, fun s h1 => ?_, by rw [he, hf]; exact h.size⟩
  · rw [hs]; exact h.at_ i ((hl i).1 hi) z
  · rw [hs]; exact h.has_ i ((hl i).1 hi)
  · obtain ⟨i, h2, h3⟩ := h.only s h1
    exact ⟨i, (hl i).2 h2, by rw [hs]; exact h3⟩
theorem Ids.ins {H : Type} {D : DataW H} {T : TabS} (h : Ids D T) (hT : T.Ok) {x : List Att} (hx : Small x) (hn : T.look x = none) : Ids (D.put (.string (txt x)) (.lit (.int .i64 T.fresh))) (T.ins x) := by
  obtain ⟨l1, l2, l3, l4, l5⟩ := len_ins hT x
  obtain ⟨f1, f2⟩ := fresh_facts hT
  have ne : ∀ j, T.live j → (Lit.string (txt (T.set j))) ≠ .string (txt x) := fun j hj e => by
    injection e with e
    exact look_none hT.pos hn hj (txt_inj (hT.small j hj).atts hx.atts e)
  have h0 : Maps.has D (.string (txt x)) = false := by rw [h.look hT hx, hn]; rfl
  refine ⟨h.tidy.put (str_key _) _, fun i hi z => ?_, fun i hi => ?_, fun s h1 => ?_, ?_⟩
  · rw [live_ins hT] at hi
    rw [set_ins hT]
    split
    · rename_i e; subst e; exact Maps.atKey_put_same h.tidy.isMap (str_key _) _ _
    · rename_i e
      have hi := hi.resolve_right e
      rw [Maps.atKey_put_other (ne i hi)]
      exact h.at_ i hi z
  · rw [live_ins hT] at hi
    rw [set_ins hT]
    split
    · exact Maps.has_put_same h.tidy.isMap (str_key _) _
    · rename_i e
      have hi := hi.resolve_right e
      rw [Maps.has_put_other (ne i hi)]
      exact h.has_ i hi
  · by_cases e : s = txt x
    · exact ⟨T.fresh, (live_ins hT x _).2 (.inr rfl), by rw [set_ins hT, if_pos rfl]; exact e⟩
    · rw [Maps.has_put_other (fun e2 => e (by injection e2))] at h1
      obtain ⟨i, h2, h3⟩ := h.only s h1
      refine ⟨i, (live_ins hT x _).2 (.inl h2), ?_⟩
      rw [set_ins hT, if_neg (fun (e : i = T.fresh) => f2 (e ▸ h2))]
      exact h3
  · rw [Maps.size_put h.tidy, h0]
    have := h.size
    simp only [Bool.false_eq_true, if_false]
    omega
theorem Ids.out {H : Type} {D : DataW H} {T : TabS} (h : Ids D T) (hT : T.Ok) {i : Nat} (h0 : i ≠ 0) (hl : T.live i) : Ids (D.del (.string (txt (T.set i)))) (T.out i) := by
  have ne : ∀ j, T.live j → j ≠ i → (Lit.string (txt (T.set j))) ≠ .string (txt (T.set i)) := fun j hj hne e => by
    injection e with e
    exact hne (hT.apart j i hj hl (txt_inj (hT.small j hj).atts (hT.small i hl).atts e))
  refine ⟨h.tidy.del _, fun j hj z => ?_, fun j hj => ?_, fun s h1 => ?_, ?_⟩
  · rw [live_out h0] at hj
    rw [set_out, if_neg hj.2, Maps.atKey_del_other (ne j hj.1 hj.2)]
    exact h.at_ j hj.1 z
  · rw [live_out h0] at hj
    rw [set_out, if_neg hj.2, Maps.has_del_other (ne j hj.1 hj.2)]
    exact h.has_ j hj.1
  · by_cases e : s = txt (T.set i)
    · subst e
      rw [Maps.has_del_same] at h1
      cases h1
    · rw [Maps.has_del_other (fun e2 => e (by injection e2))] at h1
      obtain ⟨j, h2, h3⟩ := h.only s h1
      have hne : j ≠ i := fun e2 => e (by rw [h3, e2])
      refine ⟨j, (live_out h0 j).2 ⟨h2, hne⟩, ?_⟩
      rw [set_out, if_neg hne]
      exact h3
  · have h1 := Maps.size_del h.tidy (k := .string (txt (T.set i)))
    rw [h.has_ i hl] at h1
    have h2 := h.size
    have e : (T.out i).es.length = T.es.length := by simp [TabS.out]
    have e2 : (T.out i).free.length = T.free.length + 1 := by simp [TabS.out]
    simp only [if_true] at h1
    omega
end Go.Proofs.YtiobcifpebehnaaDoor

/- I6 -/
/- I6: a table in memory -/
namespace Go.Proofs.YtiobcifpebehnaaDoor
open Go.RowKit
set_option linter.unusedVariables false

/-- A place as it lies: its set's slice, and how often it is held. -/
structure HV where
  a : Option Addr
  l : Nat
  c : Nat
  n : Nat
@[reducible] def HV.v (x : HV) : Value := .slice x.a x.l x.c
@[reducible] def hvc (x : HV) : List Value := [.slice x.a x.l x.c, .int .i64 x.n]
@[reducible] def noHV : HV := ⟨none, 0, 0, 0⟩
theorem hvc_one (x : HV) : ∀ u ∈ hvc x, u.oneCell' = true := by
  intro u hu
  simp at hu
  rcases hu with rfl | rfl <;> rfl
def heldC : Cel HV := ⟨hvc, 2, fun _ => rfl, hvc_one, by decide⟩

theorem owns_kept {w w' : World} {base : Nat} {e : TypeId} {size : Nat} {v : Value} {n : Nat} {xs : List Value} (h : w.ownsRow base e size v n xs) (hk : ∀ g, v.ownBlock = some g → w'.heap[g]? = w.heap[g]?) : w'.ownsRow base e size v n xs := by
  refine ⟨h.1, ?_⟩
  rcases h.2 with hn | ⟨g, cap, cur, rfl, hB, hg, rest⟩
  · exact .inl hn
  · exact .inr ⟨g, cap, cur, rfl, hB, (hk g rfl).trans hg, rest⟩
theorem map_kept {H : Type} {w w' : World} {P : Program} {k : TypeId} {R : Value → Option (DataW H × List MemPlace)} {b n : Nat} {D : DataW H} (h : w.ownsMap P k R b n D) (hk : w'.heap[b]? = w.heap[b]?) : w'.ownsMap P k R b n D := by
  obtain ⟨es, clock, hb, rest⟩ := h
  exact ⟨es, clock, hk.trans hb, rest⟩
theorem own_tag {w : World} {base : Nat} {e : TypeId} {size : Nat} {v : Value} {n : Nat} {xs : List Value} (h : w.ownsRow base e size v n xs) {g : Nat} (hg : v.ownBlock = some g) : ∃ cur, w.heap[g]? = some (.cells cur e (0, 0)) := by
  rcases h.2 with ⟨rfl, _⟩ | ⟨g', cap, cur, rfl, hB, hh, rest⟩
  · simp [Value.ownBlock] at hg
  · simp [Value.ownBlock] at hg; subst hg; exact ⟨cur, hh⟩
theorem own_lt7 {w : World} {base : Nat} {e : TypeId} {size : Nat} {v : Value} {n : Nat} {xs : List Value} (h : w.ownsRow base e size v n xs) {g : Nat} (hg : v.ownBlock = some g) : g < w.heap.size := by
  obtain ⟨cur, hc⟩ := own_tag h hg
  exact (Array.getElem?_eq_some_iff.1 hc).1
theorem lt_of_heap {w : World} {k : Nat} {o : Obj} (h : w.heap[k]? = some o) : k < w.heap.size := (Array.getElem?_eq_some_iff.1 h).1

/-- A table in memory: its block, its state's, the map's, the schema's map; what the rows are; all of it in blocks of S, from B on. -/
structure TbM (B : Nat) (S : Nat → Prop) (tb st mb : Nat) (m : Option Nat) (sv fv : Value) (hs : List HV) (D : DataW Unit) (T : TabS) (n : Nat) (w : World) : Prop where
  ht : w.heap[tb]? = some (.cells #[.pointer (some ⟨st, 0, none⟩)] 54 (0, 0))
  hst : w.heap[st]? = some (.cells #[.map m, .map (some mb), sv, fv] 83 (0, 0))
  good : Good T.ks
  hm : (m = none ∧ T.ks = []) ∨ ∃ sb, m = some sb ∧ sb < B ∧ w.ownsMap Tryd.prog 3 keyElem sb 64 (dat T.ks)
  hmb : w.ownsMap Tryd.prog 9 (plainElem Tryd.prog 3) mb (n + 1) D
  hsv : w.ownsRow 0 88 2 sv T.es.length (fl heldC hs)
  hfv : w.ownsRow 0 3 1 fv T.free.length (T.free.map fun i => Value.int .i64 (i : Nat))
  hrow : ∀ (i : Nat) (x : HV), hs[i]? = some x → w.ownsRow 0 47 5 x.v (T.set i).length (fl attC (T.set i))
  hn : ∀ (i : Nat) (x : HV), hs[i]? = some x → x.n = T.times i
  sT : S tb
  sSt : S st
  sMb : S mb
  sSv : ∀ g, sv.ownBlock = some g → S g
  sFv : ∀ g, fv.ownBlock = some g → S g
  sRow : ∀ (i : Nat) (x : HV), hs[i]? = some x → ∀ g, x.v.ownBlock = some g → S g
  sB : ∀ k, S k → B ≤ k
  hB : B ≤ w.heap.size
  ids : Ids D T
  ok : T.Ok
  le : T.Le n

section
variable {B : Nat} {S : Nat → Prop} {tb st mb : Nat} {m : Option Nat} {sv fv : Value} {hs : List HV} {D : DataW Unit} {T : TabS} {n : Nat} {w : World}
theorem TbM.len (h : TbM B S tb st mb m sv fv hs D T n w) : hs.length = T.es.length := by
  have := h.hsv.1
  rw [fl_len] at this
  exact Nat.eq_of_mul_eq_mul_right (show 0 < 2 by decide) this
/-- What others do, it abides. -/
theorem TbM.kept (h : TbM B S tb st mb m sv fv hs D T n w) {w' : World} (hz : w.heap.size ≤ w'.heap.size) (hk : ∀ k, k < w.heap.size → k < B ∨ S k → w'.heap[k]? = w.heap[k]?) : TbM B S tb st mb m sv fv hs D T n w' := by
  have hw : ∀ {base : Nat} {e : TypeId} {size : Nat} {v : Value} {l : Nat} {xs : List Value}, w.ownsRow base e size v l xs → (∀ g, v.ownBlock = some g → S g) → w'.ownsRow base e size v l xs := fun ho hS =>
    owns_kept ho (fun g hg => hk g (own_lt7 ho hg) (.inr (hS g hg)))
  refine ⟨(hk tb (lt_of_heap h.ht) (.inr h.sT)).trans h.ht, (hk st (lt_of_heap h.hst) (.inr h.sSt)).trans h.hst, h.good, ?_, map_kept h.hmb (hk mb h.hmb.lt (.inr h.sMb)), hw h.hsv h.sSv, hw h.hfv h.sFv, fun i x hx => hw (h.hrow i x hx) (h.sRow i x hx),
    h.hn, h.sT, h.sSt, h.sMb, h.sSv, h.sFv, h.sRow, h.sB, by have := h.hB; omega, h.ids, h.ok, h.le⟩
  rcases h.hm with h0 | ⟨sb, h1, h2, h3⟩
  · exact .inl h0
  · exact .inr ⟨sb, h1, h2, map_kept h3 (hk sb h3.lt (.inl h2))⟩
theorem TbM.below (h : TbM B S tb st mb m sv fv hs D T n w) {w' : World} (hb : Below w.heap.size w w') : TbM B S tb st mb m sv fv hs D T n w' := h.kept hb.size (fun k hk _ => hb.block k hk)
theorem TbM.mono (h : TbM B S tb st mb m sv fv hs D T n w) {S' : Nat → Prop} (hS : ∀ k, S k → S' k) (hB : ∀ k, S' k → B ≤ k) : TbM B S' tb st mb m sv fv hs D T n w :=
  ⟨h.ht, h.hst, h.good, h.hm, h.hmb, h.hsv, h.hfv, h.hrow, h.hn, hS _ h.sT, hS _ h.sSt, hS _ h.sMb, fun g hg => hS _ (h.sSv g hg), fun g hg => hS _ (h.sFv g hg), fun i x hx g hg => hS _ (h.sRow i x hx g hg), hB, h.hB, h.ids, h.ok, h.le⟩
theorem TbM.cells (h : TbM B S tb st mb m sv fv hs D T n w) : w.cell? ⟨tb, 0, none⟩ = some (.pointer (some ⟨st, 0, none⟩)) ∧ w.cell? ⟨st, 0, none⟩ = some (.map m) ∧ w.cell? ⟨st, 1, none⟩ = some (.map (some mb)) ∧ w.cell? ⟨st, 2, none⟩ = some sv ∧ w.cell? ⟨st, 3, none⟩ = some fv := by
  refine ⟨?_, ?_, ?_, ?_, ?_⟩
  · rw [cell_of_row w tb 0 _ _ _ h.ht]; rfl
  · rw [cell_of_row w st 0 _ _ _ h.hst]; rfl
  · rw [cell_of_row w st 1 _ _ _ h.hst]; rfl
  · rw [cell_of_row w st 2 _ _ _ h.hst]; rfl
  · rw [cell_of_row w st 3 _ _ _ h.hst]; rfl
/-- Its row of places: a slice of a block of its own. -/
theorem TbM.form (h : TbM B S tb st mb m sv fv hs D T n w) : ∃ g cap, sv = .slice (some ⟨g, 0, none⟩) T.es.length cap ∧ g < w.heap.size ∧ T.es.length ≤ cap := by
  obtain ⟨g, cap, rfl, -, hg⟩ := h.hsv.form h.ok.pos
  refine ⟨g, cap, rfl, hg, ?_⟩
  rcases h.hsv.2 with ⟨hn, _⟩ | ⟨g', cap', cur, hv, _, _, hc, _⟩
  · cases hn
  · injection hv with _ _ e; subst e; exact hc
/-- A place's two cells. -/
theorem TbM.place {g cap : Nat} (h : TbM B S tb st mb m (.slice (some ⟨g, 0, none⟩) T.es.length cap) fv hs D T n w) {i : Nat} (hi : i < T.es.length) :
    ∃ x, hs[i]? = some x ∧ w.cell? ⟨g, i * 2, none⟩ = some (.slice x.a x.l x.c) ∧ w.cell? ⟨g, i * 2 + 1, none⟩ = some (.int .i64 (T.times i : Nat)) ∧ w.frozen? ⟨g, i * 2, none⟩ = false ∧ w.frozen? ⟨g, i * 2 + 1, none⟩ = false ∧ w.ownsRow 0 47 5 (.slice x.a x.l x.c) (T.set i).length (fl attC (T.set i)) := by
  have hl := h.len
  have hlt : i < hs.length := by omega
  have hx : hs[i]? = some hs[i] := List.getElem?_eq_getElem hlt
  have ho := h.hsv
  rw [← hl] at ho
  have hR := (Row.of_owns (C := heldC) ho).1
  obtain ⟨b, off, ha, -, -, -, -, hat, -⟩ := Row.opened hR (by omega)
  obtain ⟨rfl, rfl⟩ : b = g ∧ off = 0 := by injection ha with e; injection e with e1 e2; exact ⟨e1.symm, e2.symm⟩
  have c0 := hat i hlt 0 _ rfl
  have c1 := hat i hlt 1 _ rfl
  rw [Nat.zero_add] at c0 c1
  have hf : ∀ o, w.frozen? ⟨b, o, none⟩ = false := fun o => by
    obtain ⟨cur, hc⟩ := own_tag h.hsv (g := b) rfl
    simp [World.frozen?, hc]
  refine ⟨hs[i], hx, c0, ?_, hf _, hf _, h.hrow i _ hx⟩
  rw [← h.hn i _ hx]
  exact c1
end

theorem iszero_any {B : Nat} {S : Nat → Prop} {tb st mb : Nat} {m : Option Nat} {sv fv : Value} {hs : List HV} {D : DataW Unit} {T : TabS} {n : Nat} (w : World) (h : TbM B S tb st mb m sv fv hs D T n w) :
    Calls Tryd.prog 30 #[.pointer (some ⟨tb, 0, none⟩)] w fun e w' => e = .returned (.bool false) ∧ w' = w := by
  obtain ⟨c0, -⟩ := h.cells
  clear h
  go_enter Tryd.func30, Tryd.ntmps30
  go_wp2
  go_ret
  exact ⟨rfl, rfl⟩
end Go.Proofs.YtiobcifpebehnaaDoor

/- I7 -/
/- I7: has, find, Held, Len, Set, Hold -/
namespace Go.Proofs.YtiobcifpebehnaaDoor
open Go.RowKit
set_option linter.unusedVariables false

section
variable {B : Nat} {S : Nat → Prop} {tb st mb : Nat} {m : Option Nat} {sv fv : Value} {hs : List HV} {D : DataW Unit} {T : TabS} {n : Nat}

set_option maxHeartbeats 1000000 in
theorem has_any (id : Int) (w : World) (h : TbM B S tb st mb m sv fv hs D T n w) (hn : n ≤ 1000000) :
    Calls Tryd.prog 39 #[.pointer (some ⟨st, 0, none⟩), .int .i64 id] w fun e w' => e = .returned (.bool (T.has id)) ∧ w' = w := by
  obtain ⟨-, -, -, c2, -⟩ := h.cells
  obtain ⟨g, cap, rfl, hg, hcap⟩ := h.form
  have hle := h.le.es
  by_cases h0 : id = 0
  · subst h0
    have e : T.has 0 = true := by simp [TabS.has]
    rw [e]
    clear h
    go_enter Tryd.func39, Tryd.ntmps39
    go_wp2
    go_ret
    exact ⟨rfl, rfl⟩
  · have e0 : (id == 0) = false := by simpa using h0
    by_cases h1 : 0 < id
    · have e1 : decide (0 < id) = true := by simpa using h1
      by_cases h2 : id < T.es.length
      · have e2 : decide (id < (T.es.length : Int)) = true := by simpa using h2
        obtain ⟨x, -, -, ct, -, -, -⟩ := h.place (i := id.toNat) (by omega)
        have e : T.has id = decide (0 < T.times id.toNat) := by
          unfold TabS.has
          simp [h0, h1, h2]
        rw [e]
        obtain ⟨j, rfl⟩ : ∃ j : Nat, id = j := ⟨id.toNat, by omega⟩
        rw [Int.toNat_natCast] at ct
        rw [Int.toNat_natCast]
        have h2' : j < T.es.length := by omega
        generalize T.times j = q at *
        clear h e
        go_enter Tryd.func39, Tryd.ntmps39
        go_wp2
        go_ret
        exact ⟨rfl, rfl⟩
      · have e2 : decide (id < (T.es.length : Int)) = false := by simpa using h2
        have e : T.has id = false := by
          unfold TabS.has
          simp [h0, h2]
        rw [e]
        clear h e
        go_enter Tryd.func39, Tryd.ntmps39
        go_wp2
        go_ret
        exact ⟨rfl, rfl⟩
    · have e1 : decide (0 < id) = false := by simpa using h1
      have e : T.has id = false := by
        unfold TabS.has
        simp [h0, h1]
      rw [e]
      clear h e
      go_enter Tryd.func39, Tryd.ntmps39
      go_wp2
      go_ret
      exact ⟨rfl, rfl⟩

/-- What find answers. -/
@[reducible] def fndP (T : TabS) (g : Nat) (id : Int) : Value := if T.has id then .tuple #[.pointer (some ⟨g, id.toNat * 2, none⟩), .int .i64 0] else .tuple #[.pointer none, .int .i64 5]
theorem find7_any (id : Int) (w : World) {g cap : Nat} (h : TbM B S tb st mb m (.slice (some ⟨g, 0, none⟩) T.es.length cap) fv hs D T n w) (hn : n ≤ 1000000) :
    Calls Tryd.prog 36 #[.pointer (some ⟨tb, 0, none⟩), .int .i64 id] w fun e w' => e = .returned (fndP T g id) ∧ w' = w := by
  obtain ⟨c0, -, -, c2, -⟩ := h.cells
  have HZ := Lib.hid (iszero_any w h)
  have HH := Lib.hid (has_any id w h hn)
  have hle := h.le.es
  unfold fndP
  cases hh : T.has id with
  | true =>
    obtain ⟨j, rfl, hl⟩ := has_live hh
    have hj := live_lt hl h.ok.pos
    rw [hh] at HH
    rw [if_pos rfl, Int.toNat_natCast]
    clear h hh hl
    go_enter Tryd.func36, Tryd.ntmps36
    go_wp2_with (first
      | (go_at_call 30; refine HZ.out.mono ?_; rintro e w1 ⟨rfl, rfl⟩)
      | (go_at_call 39; refine HH.out.mono ?_; rintro e w1 ⟨rfl, rfl⟩))
    exact bodyPost_ret (by simp [results, Tryd.results36, go_sem]) rfl ⟨rfl, rfl⟩
  | false =>
    rw [hh] at HH
    clear h hh
    go_enter Tryd.func36, Tryd.ntmps36
    go_wp2_with (first
      | (go_at_call 30; refine HZ.out.mono ?_; rintro e w1 ⟨rfl, rfl⟩)
      | (go_at_call 39; refine HH.out.mono ?_; rintro e w1 ⟨rfl, rfl⟩))
    exact bodyPost_ret (by simp [results, Tryd.results36, go_sem]) rfl ⟨rfl, rfl⟩

@[reducible] def heldI (T : TabS) (id : Int) : Int := if T.has id then (T.times id.toNat : Nat) else 0
theorem held_any (id : Int) (w : World) (h : TbM B S tb st mb m sv fv hs D T n w) (hn : n ≤ 1000000) :
    Calls Tryd.prog 23 #[.pointer (some ⟨tb, 0, none⟩), .int .i64 id] w fun e w' => e = .returned (.int .i64 (heldI T id)) ∧ w' = w := by
  obtain ⟨g, cap, rfl, hg, hcap⟩ := h.form
  have HF := Lib.hid (find7_any id w h hn)
  unfold heldI
  unfold fndP at HF
  cases hh : T.has id with
  | true =>
    obtain ⟨j, rfl, hl⟩ := has_live hh
    obtain ⟨x, -, -, ct, -, -, -⟩ := h.place (live_lt hl h.ok.pos)
    rw [hh, if_pos rfl] at HF
    rw [if_pos rfl]
    rw [Int.toNat_natCast] at HF ⊢
    generalize T.times j = q at *
    clear h hh hl
    go_enter Tryd.func23, Tryd.ntmps23
    go_wp2_with (go_at_call 36; refine HF.out.mono ?_; rintro e w1 ⟨rfl, rfl⟩)
    go_ret
    exact ⟨rfl, rfl⟩
  | false =>
    rw [hh] at HF
    simp only [Bool.false_eq_true, if_false] at HF ⊢
    clear h hh
    go_enter Tryd.func23, Tryd.ntmps23
    go_wp2_with (go_at_call 36; refine HF.out.mono ?_; rintro e w1 ⟨rfl, rfl⟩)
    go_ret
    exact ⟨rfl, rfl⟩
theorem len7_any (w : World) (h : TbM B S tb st mb m sv fv hs D T n w) :
    Calls Tryd.prog 24 #[.pointer (some ⟨tb, 0, none⟩)] w fun e w' => e = .returned (.int .i64 (T.len : Nat)) ∧ w' = w := by
  obtain ⟨c0, -, c1, -, -⟩ := h.cells
  have HZ := Lib.hid (iszero_any w h)
  have ho := h.hmb
  have e : Maps.size D = T.len := by have := h.ids.size; unfold TabS.len; omega
  have E := Lib.hid e
  clear h e
  go_enter Tryd.func24, Tryd.ntmps24
  go_wp2_with (first
    | (go_at_call 30; refine HZ.out.mono ?_; rintro e w1 ⟨rfl, rfl⟩)
    | (at_len; refine wpList_len_own _ rfl _ 80 rfl 9 3 Tryd.underlying80 _ mb _ _ rfl ho ?_))
  go_ret
  exact ⟨by rw [E.out]; rfl, rfl⟩
/-- What Set answers. -/
def SetP (T : TabS) (id : Int) (w : World) (e : Ending) (w' : World) : Prop :=
  Below w.heap.size w w' ∧ ((T.has id = true ∧ ∃ u, e = .returned (.tuple #[u, .int .i64 0]) ∧ Own5 w w' u (T.set id.toNat)) ∨ (T.has id = false ∧ e = .returned (.tuple #[.slice none 0 0, .int .i64 5])))
theorem set7_any (id : Int) (w : World) (h : TbM B S tb st mb m sv fv hs D T n w) (hn : n ≤ 1000000) :
    Calls Tryd.prog 21 #[.pointer (some ⟨tb, 0, none⟩), .int .i64 id] w (SetP T id w) := by
  obtain ⟨g, cap, rfl, hg, hcap⟩ := h.form
  have HF := Lib.hid (find7_any id w h hn)
  unfold SetP
  unfold fndP at HF
  cases hh : T.has id with
  | true =>
    obtain ⟨j, rfl, hl⟩ := has_live hh
    obtain ⟨x, -, cs, -, -, -, ho⟩ := h.place (live_lt hl h.ok.pos)
    have hsm := h.ok.small j hl
    rw [hh, if_pos rfl, Int.toNat_natCast] at HF
    have HO := Lib.hid (own_any _ _ w (Row.of_owns (C := attC) ho).1 (by have := hsm.1; omega) (fun a ha => by have := (hsm.2 a ha).2; omega))
    rw [Int.toNat_natCast]
    generalize T.set j = q at *
    clear h hh hl hsm ho
    go_enter Tryd.func21, Tryd.ntmps21
    go_wp2_with (first
      | (go_at_call 36; refine HF.out.mono ?_; rintro e w1 ⟨rfl, rfl⟩)
      | (go_at_call 33; refine HO.out.mono ?_; rintro e w2 ⟨u, rfl, HR⟩))
    exact bodyPost_ret (by simp [results, Tryd.results21, go_sem]) rfl ⟨HR.2, .inl ⟨trivial, u, rfl, HR.1⟩⟩
  | false =>
    rw [hh] at HF
    simp only [Bool.false_eq_true, if_false] at HF
    clear h hh
    go_enter Tryd.func21, Tryd.ntmps21
    go_wp2_with (go_at_call 36; refine HF.out.mono ?_; rintro e w1 ⟨rfl, rfl⟩)
    exact bodyPost_ret (by simp [results, Tryd.results21, go_sem]) rfl ⟨Below.refl _ _, .inr ⟨trivial, rfl⟩⟩
end
end Go.Proofs.YtiobcifpebehnaaDoor

/- I8 -/
/- I8: a place is turned; Hold -/
namespace Go.Proofs.YtiobcifpebehnaaDoor
open Go.RowKit
set_option linter.unusedVariables false

/-- But for blocks of S, what lay there lies there. -/
structure Off (S : Nat → Prop) (w w' : World) : Prop where
  os : w'.os = w.os
  tape : w'.tape = w.tape
  output : w'.output = w.output
  size : w.heap.size ≤ w'.heap.size
  block : ∀ k, k < w.heap.size → ¬ S k → w'.heap[k]? = w.heap[k]?
theorem Off.refl (S : Nat → Prop) (w : World) : Off S w w := ⟨rfl, rfl, rfl, Nat.le_refl _, fun _ _ _ => rfl⟩
theorem Off.trans {S : Nat → Prop} {a b c : World} (h : Off S a b) (k : Off (fun i => S i ∨ a.heap.size ≤ i) b c) : Off S a c :=
  ⟨k.os.trans h.os, k.tape.trans h.tape, k.output.trans h.output, Nat.le_trans h.size k.size, fun i hi hS =>
    (k.block i (Nat.lt_of_lt_of_le hi h.size) (fun hh => by rcases hh with hh | hh; exact hS hh; omega)).trans (h.block i hi hS)⟩
theorem Off.seq {S : Nat → Prop} {a b c : World} (h : Off S a b) (k : Off S b c) : Off S a c :=
  ⟨k.os.trans h.os, k.tape.trans h.tape, k.output.trans h.output, Nat.le_trans h.size k.size, fun i hi hS => (k.block i (Nat.lt_of_lt_of_le hi h.size) hS).trans (h.block i hi hS)⟩
theorem Off.cut {S : Nat → Prop} {a b : World} (h : Off (fun k => S k ∨ a.heap.size ≤ k) a b) : Off S a b :=
  ⟨h.os, h.tape, h.output, h.size, fun k hk hn => h.block k hk (fun hh => by rcases hh with hh | hh; exact hn hh; omega)⟩
theorem Off.mono {S S' : Nat → Prop} {a b : World} (h : Off S a b) (hS : ∀ k, S k → S' k) : Off S' a b := ⟨h.os, h.tape, h.output, h.size, fun k hk hn => h.block k hk (fun hh => hn (hS k hh))⟩
theorem Off.of_below {S : Nat → Prop} {a b : World} (h : Below a.heap.size a b) : Off S a b := ⟨h.os, h.tape, h.output, h.size, fun k hk _ => h.block k hk⟩
theorem Off.of_grown {S : Nat → Prop} {a b : World} {row : Option Nat} (h : a.grownBy b row) (hr : ∀ g, row = some g → S g) : Off S a b :=
  ⟨h.os, h.tape, h.output, h.size, fun k hk hn => h.block k hk (fun e => hn (hr k e.symm))⟩
theorem Off.below {S : Nat → Prop} {a b : World} {B : Nat} (h : Off S a b) (hS : ∀ k, S k → B ≤ k) (hB : B ≤ a.heap.size) : Below B a b :=
  ⟨h.os, h.tape, h.output, h.size, fun k hk => h.block k (by omega) (fun hh => by have := hS k hh; omega)⟩

theorem far {w w' : World} {row : Option Nat} (hg : w.grownBy w' row) {k : Nat} {o : Obj} (hk : w.heap[k]? = some o) (hr : ∀ g, row = some g → ∃ o', w.heap[g]? = some o' ∧ o' ≠ o) : w'.heap[k]? = some o := by
  rw [hg.block k (Array.getElem?_eq_some_iff.1 hk).1]
  · exact hk
  · intro e
    obtain ⟨o', h1, h2⟩ := hr k e.symm
    rw [hk] at h1
    exact h2 (Option.some.inj h1).symm
theorem own_far {w w' : World} {row : Option Nat} {base : Nat} {e : TypeId} {size : Nat} {v : Value} {n : Nat} {xs : List Value} (hg : w.grownBy w' row) (h : w.ownsRow base e size v n xs) (hr : ∀ g, row = some g → ∃ o', w.heap[g]? = some o' ∧ ∀ c, o' ≠ .cells c e (0, 0)) : w'.ownsRow base e size v n xs := by
  refine owns_kept h fun g hgb => ?_
  obtain ⟨cur, hc⟩ := own_tag h hgb
  rw [hc]
  exact far hg hc (fun g' hg' => by obtain ⟨o', h1, h2⟩ := hr g' hg'; exact ⟨o', h1, h2 _⟩)
theorem map_far {H : Type} {w w' : World} {row : Option Nat} {P : Program} {k : TypeId} {R : Value → Option (DataW H × List MemPlace)} {b n : Nat} {D : DataW H} (hg : w.grownBy w' row) (h : w.ownsMap P k R b n D) (hr : ∀ g, row = some g → ∃ c e fz, w.heap[g]? = some (.cells c e fz)) : w'.ownsMap P k R b n D := by
  refine map_kept h ?_
  obtain ⟨es, clock, hb, rest⟩ := h
  rw [hb]
  exact far hg hb (fun g' hg' => by obtain ⟨c, e, fz, h1⟩ := hr g' hg'; exact ⟨_, h1, by simp⟩)
theorem grown_set {w : World} {g o : Nat} (u : Value) : w.grownBy (w.setCell ⟨g, o, none⟩ u) (some g) :=
  ⟨rfl, rfl, rfl, by simp [World.setCell], fun k _ hk => Below.heap_setCell _ _ _ _ (fun e => hk (by rw [e]))⟩
theorem heap_set {w : World} {g o : Nat} {c : Array Value} {e : TypeId} {fz : Nat × Nat} (u : Value) (h : w.heap[g]? = some (.cells c e fz)) : (w.setCell ⟨g, o, none⟩ u).heap[g]? = some (.cells (c.setIfInBounds o u) e fz) := by
  simp [World.setCell, Array.getElem?_modify, h]
theorem owns_set {w : World} {base : Nat} {e : TypeId} {size : Nat} {g cap n : Nat} {xs : List Value} (h : w.ownsRow base e size (.slice (some ⟨g, 0, none⟩) n cap) n xs) {j : Nat} (u : Value) :
    (w.setCell ⟨g, j, none⟩ u).ownsRow base e size (.slice (some ⟨g, 0, none⟩) n cap) n (xs.set j u) := by
  refine ⟨by rw [List.length_set]; exact h.1, ?_⟩
  rcases h.2 with ⟨hn, _⟩ | ⟨g', cap', cur, hv, hB, hg, hc, hm, hs, ht⟩
  · cases hn
  · injection hv with e1 e2 e3
    injection e1 with e1
    injection e1 with e1
    subst e1 e3
    refine .inr ⟨g, cap, cur.setIfInBounds j u, rfl, hB, heap_set u hg, hc, hm, by simpa using hs, ?_⟩
    rw [Array.toList_setIfInBounds, List.take_set, ht]
theorem fl_poke : ∀ (hs : List HV) (i : Nat) (x : HV) (q : Nat), hs[i]? = some x → (fl heldC hs).set (i * 2 + 1) (.int .i64 (q : Nat)) = fl heldC (hs.set i ⟨x.a, x.l, x.c, q⟩)
  | [], i, x, q, h => by simp at h
  | y :: r, 0, x, q, h => by
    obtain rfl : y = x := by simpa using h
    rfl
  | y :: r, i + 1, x, q, h => by
    have e : (i + 1) * 2 + 1 = (i * 2 + 1) + 2 := by omega
    rw [e, fl_cons]
    show [Value.slice y.a y.l y.c, .int .i64 y.n] ++ (fl heldC r).set (i * 2 + 1) _ = _
    rw [fl_poke r i x q (by simpa using h)]
    rfl
theorem fl_puts : ∀ (hs : List HV) (i : Nat) (x : HV) (a : Option Addr) (l c : Nat), hs[i]? = some x → (fl heldC hs).set (i * 2) (.slice a l c) = fl heldC (hs.set i ⟨a, l, c, x.n⟩)
  | [], i, x, a, l, c, h => by simp at h
  | y :: r, 0, x, a, l, c, h => by
    obtain rfl : y = x := by simpa using h
    rfl
  | y :: r, i + 1, x, a, l, c, h => by
    have e : (i + 1) * 2 = (i * 2) + 2 := by omega
    rw [e, fl_cons]
    show [Value.slice y.a y.l y.c, .int .i64 y.n] ++ (fl heldC r).set (i * 2) _ = _
    rw [fl_puts r i x a l c (by simpa using h)]
    rfl

section
variable {B : Nat} {S : Nat → Prop} {tb st mb : Nat} {m : Option Nat} {sv fv : Value} {hs : List HV} {D : DataW Unit} {T : TabS} {n : Nat} {w : World}
/-- The number at a live place is turned. -/
theorem TbM.poke {g cap : Nat} (h : TbM B S tb st mb m (.slice (some ⟨g, 0, none⟩) T.es.length cap) fv hs D T n w) {i q n' : Nat} {x : HV} (hx : hs[i]? = some x) (hl : T.live i) (hq : i = 0 ∨ 0 < q) (hqn : q ≤ n') (hn : n ≤ n') :
    TbM B S tb st mb m (.slice (some ⟨g, 0, none⟩) T.es.length cap) fv (hs.set i ⟨x.a, x.l, x.c, q⟩) D (T.upd i ⟨T.set i, q⟩) n' (w.setCell ⟨g, i * 2 + 1, none⟩ (.int .i64 (q : Nat))) := by
  obtain ⟨cur, hcur⟩ := own_tag h.hsv (g := g) rfl
  have hG := grown_set (w := w) (g := g) (o := i * 2 + 1) (.int .i64 (q : Nat))
  obtain ⟨k1, k2, k3⟩ := ok_upd h.ok hl hq
  have hlen : (T.upd i ⟨T.set i, q⟩).es.length = T.es.length := by simp [TabS.upd]
  have hle := le_upd h.le hn i q hqn (T.set i)
  have hil := live_lt hl h.ok.pos
  have hr1 : ∀ e : TypeId, e ≠ 88 → ∀ g', some g = some g' → ∃ o', w.heap[g']? = some o' ∧ ∀ c, o' ≠ .cells c e (0, 0) := fun e he g' hg' => by
    cases hg'
    exact ⟨_, hcur, fun c hc => by injection hc with _ hc _; exact he hc.symm⟩
  have hr2 : ∀ g', some g = some g' → ∃ c e fz, w.heap[g']? = some (.cells c e fz) := fun g' hg' => by cases hg'; exact ⟨_, _, _, hcur⟩
  refine ⟨far hG h.ht (fun g' hg' => by cases hg'; exact ⟨_, hcur, by simp⟩), far hG h.hst (fun g' hg' => by cases hg'; exact ⟨_, hcur, by simp⟩), h.good, ?_, ?_, ?_, own_far hG h.hfv (hr1 _ (by decide)), fun j y hy => ?_, fun j y hy => ?_,
    h.sT, h.sSt, h.sMb, h.sSv, h.sFv, fun j y hy => ?_, h.sB, by have := h.hB; have := hG.size; omega, h.ids.same k2 k3 hlen rfl, k1, hle⟩
  · rcases h.hm with h0 | ⟨sb, h1, h2, h3⟩
    · exact .inl h0
    · exact .inr ⟨sb, h1, h2, map_far hG h3 hr2⟩
  · obtain ⟨es, clock, h1, h2, h3, h4⟩ := map_far hG h.hmb hr2
    exact ⟨es, clock, h1, h2, by omega, h4⟩
  · rw [hlen, ← fl_poke hs i x q hx]
    exact owns_set h.hsv _
  · rw [k3]
    rw [List.getElem?_set] at hy
    have key : ∃ z, hs[j]? = some z ∧ y.v = z.v := by
      split at hy
      · rename_i hij
        subst hij
        split at hy
        · cases hy; exact ⟨x, hx, rfl⟩
        · cases hy
      · exact ⟨y, hy, rfl⟩
    obtain ⟨z, hz, e⟩ := key
    rw [e]
    exact own_far hG (h.hrow j z hz) (hr1 _ (by decide))
  · rw [times_upd]
    rw [List.getElem?_set] at hy
    split at hy
    · rename_i hij
      subst hij
      rw [if_pos ⟨rfl, hil⟩]
      split at hy
      · cases hy; rfl
      · cases hy
    · rename_i hij
      rw [if_neg (fun hc => hij hc.1.symm)]
      exact h.hn j y hy
  · rw [List.getElem?_set] at hy
    split at hy
    · rename_i hij
      subst hij
      split at hy
      · cases hy; exact h.sRow i x hx
      · cases hy
    · exact h.sRow j y hy
end
end Go.Proofs.YtiobcifpebehnaaDoor

/- I9 -/
/- I9: what lies there, step by step -/
namespace Go.Proofs.YtiobcifpebehnaaDoor
open Go.RowKit
set_option linter.unusedVariables false

/-- A table's memory, whatever it is to mean. -/
structure Mem (B : Nat) (S : Nat → Prop) (tb st mb : Nat) (m : Option Nat) (sv fv : Value) (hs : List HV) (sets : Nat → List Att) (fr : List Nat) (ks : List Key) (k : Nat) (D : DataW Unit) (w : World) : Prop where
  ht : w.heap[tb]? = some (.cells #[.pointer (some ⟨st, 0, none⟩)] 54 (0, 0))
  hst : w.heap[st]? = some (.cells #[.map m, .map (some mb), sv, fv] 83 (0, 0))
  good : Good ks
  hm : (m = none ∧ ks = []) ∨ ∃ sb, m = some sb ∧ sb < B ∧ w.ownsMap Tryd.prog 3 keyElem sb 64 (dat ks)
  hmb : w.ownsMap Tryd.prog 9 (plainElem Tryd.prog 3) mb k D
  hsv : w.ownsRow 0 88 2 sv hs.length (fl heldC hs)
  hfv : w.ownsRow 0 3 1 fv fr.length (fr.map fun i => Value.int .i64 (i : Nat))
  hrow : ∀ (i : Nat) (x : HV), hs[i]? = some x → w.ownsRow 0 47 5 x.v (sets i).length (fl attC (sets i))
  sT : S tb
  sSt : S st
  sMb : S mb
  sSv : ∀ g, sv.ownBlock = some g → S g
  sFv : ∀ g, fv.ownBlock = some g → S g
  sRow : ∀ (i : Nat) (x : HV), hs[i]? = some x → ∀ g, x.v.ownBlock = some g → S g
  sB : ∀ k, S k → B ≤ k
  hB : B ≤ w.heap.size
theorem TbM.mem {B : Nat} {S : Nat → Prop} {tb st mb : Nat} {m : Option Nat} {sv fv : Value} {hs : List HV} {D : DataW Unit} {T : TabS} {n : Nat} {w : World} (h : TbM B S tb st mb m sv fv hs D T n w) :
    Mem B S tb st mb m sv fv hs T.set T.free T.ks (n + 1) D w :=
  ⟨h.ht, h.hst, h.good, h.hm, h.hmb, by rw [h.len]; exact h.hsv, h.hfv, h.hrow, h.sT, h.sSt, h.sMb, h.sSv, h.sFv, h.sRow, h.sB, h.hB⟩

section
variable {B : Nat} {S : Nat → Prop} {tb st mb : Nat} {m : Option Nat} {sv fv : Value} {hs : List HV} {sets : Nat → List Att} {fr : List Nat} {ks : List Key} {k : Nat} {D : DataW Unit} {w : World}
/-- .. and what it means. -/
theorem Mem.tbm (h : Mem B S tb st mb m sv fv hs sets fr ks k D w) {T : TabS} {n : Nat} (h1 : hs.length = T.es.length) (h2 : ∀ i, i < hs.length → sets i = T.set i) (h3 : fr = T.free) (h4 : ks = T.ks) (h5 : k ≤ n + 1) (h6 : ∀ (i : Nat) (x : HV), hs[i]? = some x → x.n = T.times i)
    (h7 : Ids D T) (h8 : T.Ok) (h9 : T.Le n) : TbM B S tb st mb m sv fv hs D T n w := by
  subst h3 h4
  refine ⟨h.ht, h.hst, h.good, h.hm, ?_, by rw [← h1]; exact h.hsv, h.hfv, fun i x hx => ?_, h6, h.sT, h.sSt, h.sMb, h.sSv, h.sFv, h.sRow, h.sB, h.hB, h7, h8, h9⟩
  · obtain ⟨es, clock, q1, q2, q3, q4⟩ := h.hmb
    exact ⟨es, clock, q1, q2, by omega, q4⟩
  · rw [← h2 i (List.getElem?_eq_some_iff.1 hx).1]; exact h.hrow i x hx
theorem Mem.kept (h : Mem B S tb st mb m sv fv hs sets fr ks k D w) {w' : World} (hz : w.heap.size ≤ w'.heap.size) (hk : ∀ k, k < w.heap.size → k < B ∨ S k → w'.heap[k]? = w.heap[k]?) : Mem B S tb st mb m sv fv hs sets fr ks k D w' := by
  have hw : ∀ {base : Nat} {e : TypeId} {size : Nat} {v : Value} {l : Nat} {xs : List Value}, w.ownsRow base e size v l xs → (∀ g, v.ownBlock = some g → S g) → w'.ownsRow base e size v l xs := fun ho hS =>
    owns_kept ho (fun g hg => hk g (own_lt7 ho hg) (.inr (hS g hg)))
  refine ⟨(hk tb (lt_of_heap h.ht) (.inr h.sT)).trans h.ht, (hk st (lt_of_heap h.hst) (.inr h.sSt)).trans h.hst, h.good, ?_, map_kept h.hmb (hk mb h.hmb.lt (.inr h.sMb)), hw h.hsv h.sSv, hw h.hfv h.sFv, fun i x hx => hw (h.hrow i x hx) (h.sRow i x hx),
    h.sT, h.sSt, h.sMb, h.sSv, h.sFv, h.sRow, h.sB, by have := h.hB; omega⟩
  rcases h.hm with h0 | ⟨sb, h1, h2, h3⟩
  · exact .inl h0
  · exact .inr ⟨sb, h1, h2, map_kept h3 (hk sb h3.lt (.inl h2))⟩
theorem Mem.below (h : Mem B S tb st mb m sv fv hs sets fr ks k D w) {w' : World} (hb : Below w.heap.size w w') : Mem B S tb st mb m sv fv hs sets fr ks k D w' := h.kept hb.size (fun k hk _ => hb.block k hk)
theorem Mem.mono (h : Mem B S tb st mb m sv fv hs sets fr ks k D w) {S' : Nat → Prop} (hS : ∀ k, S k → S' k) (hB : ∀ k, S' k → B ≤ k) : Mem B S' tb st mb m sv fv hs sets fr ks k D w :=
  ⟨h.ht, h.hst, h.good, h.hm, h.hmb, h.hsv, h.hfv, h.hrow, hS _ h.sT, hS _ h.sSt, hS _ h.sMb, fun g hg => hS _ (h.sSv g hg), fun g hg => hS _ (h.sFv g hg), fun i x hx g hg => hS _ (h.sRow i x hx g hg), hB, h.hB⟩
theorem Mem.cells (h : Mem B S tb st mb m sv fv hs sets fr ks k D w) : w.cell? ⟨tb, 0, none⟩ = some (.pointer (some ⟨st, 0, none⟩)) ∧ w.cell? ⟨st, 0, none⟩ = some (.map m) ∧ w.cell? ⟨st, 1, none⟩ = some (.map (some mb)) ∧ w.cell? ⟨st, 2, none⟩ = some sv ∧ w.cell? ⟨st, 3, none⟩ = some fv := by
  refine ⟨?_, ?_, ?_, ?_, ?_⟩
  · rw [cell_of_row w tb 0 _ _ _ h.ht]; rfl
  · rw [cell_of_row w st 0 _ _ _ h.hst]; rfl
  · rw [cell_of_row w st 1 _ _ _ h.hst]; rfl
  · rw [cell_of_row w st 2 _ _ _ h.hst]; rfl
  · rw [cell_of_row w st 3 _ _ _ h.hst]; rfl
theorem Mem.nofreeze (h : Mem B S tb st mb m sv fv hs sets fr ks k D w) (o : Nat) : w.frozen? ⟨st, o, none⟩ = false := by simp [World.frozen?, h.hst]
theorem Mem.form (h : Mem B S tb st mb m sv fv hs sets fr ks k D w) (h0 : 0 < hs.length) : ∃ g cap, sv = .slice (some ⟨g, 0, none⟩) hs.length cap ∧ g < w.heap.size ∧ hs.length ≤ cap := by
  obtain ⟨g, cap, rfl, -, hg⟩ := h.hsv.form h0
  refine ⟨g, cap, rfl, hg, ?_⟩
  rcases h.hsv.2 with ⟨hn, _⟩ | ⟨g', cap', cur, hv, _, _, hc, _⟩
  · cases hn
  · injection hv with _ _ e; subst e; exact hc
theorem Mem.place {g cap : Nat} (h : Mem B S tb st mb m (.slice (some ⟨g, 0, none⟩) hs.length cap) fv hs sets fr ks k D w) {i : Nat} {x : HV} (hx : hs[i]? = some x) :
    w.cell? ⟨g, i * 2, none⟩ = some (.slice x.a x.l x.c) ∧ w.cell? ⟨g, i * 2 + 1, none⟩ = some (.int .i64 (x.n : Nat)) ∧ (∀ o, w.frozen? ⟨g, o, none⟩ = false) := by
  obtain ⟨hlt, hx2⟩ := List.getElem?_eq_some_iff.1 hx
  have hR := (Row.of_owns (C := heldC) h.hsv).1
  obtain ⟨b, off, ha, -, -, -, -, hat, -⟩ := Row.opened hR (by omega)
  obtain ⟨rfl, rfl⟩ : b = g ∧ off = 0 := by injection ha with e; injection e with e1 e2; exact ⟨e1.symm, e2.symm⟩
  have c0 := hat i hlt 0 _ rfl
  have c1 := hat i hlt 1 _ rfl
  rw [Nat.zero_add] at c0 c1
  rw [hx2] at c0 c1
  refine ⟨c0, c1, fun o => ?_⟩
  obtain ⟨cur, hc⟩ := own_tag h.hsv (g := b) rfl
  simp [World.frozen?, hc]

/-- The number at a place. -/
theorem Mem.poke {g cap : Nat} (h : Mem B S tb st mb m (.slice (some ⟨g, 0, none⟩) hs.length cap) fv hs sets fr ks k D w) {i q : Nat} {x : HV} (hx : hs[i]? = some x) :
    Mem B S tb st mb m (.slice (some ⟨g, 0, none⟩) (hs.set i ⟨x.a, x.l, x.c, q⟩).length cap) fv (hs.set i ⟨x.a, x.l, x.c, q⟩) sets fr ks k D (w.setCell ⟨g, i * 2 + 1, none⟩ (.int .i64 (q : Nat))) := by
  obtain ⟨cur, hcur⟩ := own_tag h.hsv (g := g) rfl
  have hG := grown_set (w := w) (g := g) (o := i * 2 + 1) (.int .i64 (q : Nat))
  have hr1 : ∀ e : TypeId, e ≠ 88 → ∀ g', some g = some g' → ∃ o', w.heap[g']? = some o' ∧ ∀ c, o' ≠ .cells c e (0, 0) := fun e he g' hg' => by
    cases hg'
    exact ⟨_, hcur, fun c hc => by injection hc with _ hc _; exact he hc.symm⟩
  have hr2 : ∀ g', some g = some g' → ∃ c e fz, w.heap[g']? = some (.cells c e fz) := fun g' hg' => by cases hg'; exact ⟨_, _, _, hcur⟩
  have key : ∀ (j : Nat) (y : HV), (hs.set i ⟨x.a, x.l, x.c, q⟩)[j]? = some y → ∃ z, hs[j]? = some z ∧ y.v = z.v := fun j y hy => by
    rw [List.getElem?_set] at hy
    split at hy
    · rename_i hij
      subst hij
      split at hy
      · cases hy; exact ⟨x, hx, rfl⟩
      · cases hy
    · exact ⟨y, hy, rfl⟩
  refine ⟨far hG h.ht (fun g' hg' => by cases hg'; exact ⟨_, hcur, by simp⟩), ?_, h.good, ?_, map_far hG h.hmb hr2, ?_, own_far hG h.hfv (hr1 _ (by decide)), fun j y hy => ?_, h.sT, h.sSt, h.sMb, fun g' hg' => h.sSv g' hg', h.sFv, fun j y hy => ?_, h.sB, by have := h.hB; have := hG.size; omega⟩
  · rw [List.length_set]; exact far hG h.hst (fun g' hg' => by cases hg'; exact ⟨_, hcur, by simp⟩)
  · rcases h.hm with h0 | ⟨sb, h1, h2, h3⟩
    · exact .inl h0
    · exact .inr ⟨sb, h1, h2, map_far hG h3 hr2⟩
  · rw [← fl_poke hs i x q hx, List.length_set]
    exact owns_set h.hsv _
  · obtain ⟨z, hz, e⟩ := key j y hy
    rw [e]
    exact own_far hG (h.hrow j z hz) (hr1 _ (by decide))
  · obtain ⟨z, hz, e⟩ := key j y hy
    rw [e]
    exact h.sRow j z hz
/-- The set at a place. -/
theorem Mem.puts {g cap : Nat} (h : Mem B S tb st mb m (.slice (some ⟨g, 0, none⟩) hs.length cap) fv hs sets fr ks k D w) {i : Nat} {x : HV} (hx : hs[i]? = some x) {a : Option Addr} {l c : Nat} {X : List Att} (ho : w.ownsRow 0 47 5 (.slice a l c) X.length (fl attC X)) (hS : ∀ g, (Value.slice a l c).ownBlock = some g → S g) :
    Mem B S tb st mb m (.slice (some ⟨g, 0, none⟩) (hs.set i ⟨a, l, c, x.n⟩).length cap) fv (hs.set i ⟨a, l, c, x.n⟩) (fun j => if j = i then X else sets j) fr ks k D (w.setCell ⟨g, i * 2, none⟩ (.slice a l c)) := by
  obtain ⟨cur, hcur⟩ := own_tag h.hsv (g := g) rfl
  have hG := grown_set (w := w) (g := g) (o := i * 2) (.slice a l c)
  have hr1 : ∀ e : TypeId, e ≠ 88 → ∀ g', some g = some g' → ∃ o', w.heap[g']? = some o' ∧ ∀ c, o' ≠ .cells c e (0, 0) := fun e he g' hg' => by
    cases hg'
    exact ⟨_, hcur, fun c hc => by injection hc with _ hc _; exact he hc.symm⟩
  have hr2 : ∀ g', some g = some g' → ∃ c e fz, w.heap[g']? = some (.cells c e fz) := fun g' hg' => by cases hg'; exact ⟨_, _, _, hcur⟩
  have key : ∀ (j : Nat) (y : HV), (hs.set i ⟨a, l, c, x.n⟩)[j]? = some y → (j = i ∧ y.v = .slice a l c) ∨ (j ≠ i ∧ hs[j]? = some y) := fun j y hy => by
    rw [List.getElem?_set] at hy
    split at hy
    · rename_i hij
      subst hij
      split at hy
      · cases hy; exact .inl ⟨rfl, rfl⟩
      · cases hy
    · rename_i hij
      exact .inr ⟨fun e => hij e.symm, hy⟩
  refine ⟨far hG h.ht (fun g' hg' => by cases hg'; exact ⟨_, hcur, by simp⟩), ?_, h.good, ?_, map_far hG h.hmb hr2, ?_, own_far hG h.hfv (hr1 _ (by decide)), fun j y hy => ?_, h.sT, h.sSt, h.sMb, fun g' hg' => h.sSv g' hg', h.sFv, fun j y hy => ?_, h.sB, by have := h.hB; have := hG.size; omega⟩
  · rw [List.length_set]; exact far hG h.hst (fun g' hg' => by cases hg'; exact ⟨_, hcur, by simp⟩)
  · rcases h.hm with h0 | ⟨sb, h1, h2, h3⟩
    · exact .inl h0
    · exact .inr ⟨sb, h1, h2, map_far hG h3 hr2⟩
  · rw [← fl_puts hs i x a l c hx, List.length_set]
    exact owns_set h.hsv _
  · rcases key j y hy with ⟨rfl, e⟩ | ⟨hne, hy2⟩
    · rw [e, if_pos rfl]
      exact own_far hG ho (hr1 _ (by decide))
    · rw [if_neg hne]
      exact own_far hG (h.hrow j y hy2) (hr1 _ (by decide))
  · rcases key j y hy with ⟨rfl, e⟩ | ⟨hne, hy2⟩
    · rw [e]; exact hS
    · exact h.sRow j y hy2
/-- The map of texts turns. -/
theorem Mem.turn (h : Mem B S tb st mb m sv fv hs sets fr ks k D w) {w' : World} {k' : Nat} {D' : DataW Unit} (ho : w'.ownsMap Tryd.prog 9 (plainElem Tryd.prog 3) mb k' D') (hG : w.grownBy w' (some mb)) : Mem B S tb st mb m sv fv hs sets fr ks k' D' w' := by
  obtain ⟨es, clock, hmb, -⟩ := h.hmb
  have hr1 : ∀ e : TypeId, ∀ g', some mb = some g' → ∃ o', w.heap[g']? = some o' ∧ ∀ c, o' ≠ .cells c e (0, 0) := fun e g' hg' => by cases hg'; exact ⟨_, hmb, fun c hc => by cases hc⟩
  have hmB := h.sB _ h.sMb
  refine ⟨far hG h.ht (fun g' hg' => by cases hg'; exact ⟨_, hmb, by simp⟩), far hG h.hst (fun g' hg' => by cases hg'; exact ⟨_, hmb, by simp⟩), h.good, ?_, ho, own_far hG h.hsv (hr1 _), own_far hG h.hfv (hr1 _), fun j y hy => own_far hG (h.hrow j y hy) (hr1 _), h.sT, h.sSt, h.sMb, h.sSv, h.sFv, h.sRow, h.sB, by have := h.hB; have := hG.size; omega⟩
  rcases h.hm with h0 | ⟨sb, h1, h2, h3⟩
  · exact .inl h0
  · exact .inr ⟨sb, h1, h2, map_kept h3 (hG.block sb h3.lt (fun e => by injection e; omega))⟩
/-- The row of free ids turns, and the state with it. -/
theorem Mem.refree (h : Mem B S tb st mb m sv fv hs sets fr ks k D w) {w1 : World} {fv' : Value} {fr' : List Nat} (hG : w.grownBy w1 fv.ownBlock) (ho : w1.ownsRow 0 3 1 fv' fr'.length (fr'.map fun i => Value.int .i64 (i : Nat))) (hS : ∀ g, fv'.ownBlock = some g → S g) :
    Mem B S tb st mb m sv fv' hs sets fr' ks k D (w1.setCell ⟨st, 3, none⟩ fv') := by
  have ht1 : ∀ g', fv.ownBlock = some g' → ∃ cur, w.heap[g']? = some (.cells cur 3 (0, 0)) := fun g' hg' => own_tag h.hfv hg'
  have hr1 : ∀ e : TypeId, e ≠ 3 → ∀ g', fv.ownBlock = some g' → ∃ o', w.heap[g']? = some o' ∧ ∀ c, o' ≠ .cells c e (0, 0) := fun e he g' hg' => by
    obtain ⟨cur, hcur⟩ := ht1 g' hg'
    exact ⟨_, hcur, fun c hc => by injection hc with _ hc _; exact he hc.symm⟩
  have hr2 : ∀ g', fv.ownBlock = some g' → ∃ c e fz, w.heap[g']? = some (.cells c e fz) := fun g' hg' => by obtain ⟨cur, hcur⟩ := ht1 g' hg'; exact ⟨_, _, _, hcur⟩
  have hst1 := far hG h.hst (fun g' hg' => by obtain ⟨cur, hcur⟩ := ht1 g' hg'; exact ⟨_, hcur, by simp⟩)
  have htb1 := far hG h.ht (fun g' hg' => by obtain ⟨cur, hcur⟩ := ht1 g' hg'; exact ⟨_, hcur, by simp⟩)
  have hG2 := grown_set (w := w1) (g := st) (o := 3) fv'
  have hs1 : ∀ e : TypeId, e ≠ 83 → ∀ g', some st = some g' → ∃ o', w1.heap[g']? = some o' ∧ ∀ c, o' ≠ .cells c e (0, 0) := fun e he g' hg' => by
    cases hg'
    exact ⟨_, hst1, fun c hc => by injection hc with _ hc _; exact he hc.symm⟩
  have hs2 : ∀ g', some st = some g' → ∃ c e fz, w1.heap[g']? = some (.cells c e fz) := fun g' hg' => by cases hg'; exact ⟨_, _, _, hst1⟩
  refine ⟨far hG2 htb1 (fun g' hg' => by cases hg'; exact ⟨_, hst1, by simp⟩), ?_, h.good, ?_, map_far hG2 (map_far hG h.hmb hr2) hs2, own_far hG2 (own_far hG h.hsv (hr1 _ (by decide))) (hs1 _ (by decide)), own_far hG2 ho (hs1 _ (by decide)), fun j y hy => own_far hG2 (own_far hG (h.hrow j y hy) (hr1 _ (by decide))) (hs1 _ (by decide)),
    h.sT, h.sSt, h.sMb, h.sSv, hS, h.sRow, h.sB, by have := h.hB; have := hG.size; have := hG2.size; omega⟩
  · rw [heap_set fv' hst1]; rfl
  · rcases h.hm with h0 | ⟨sb, h1, h2, h3⟩
    · exact .inl h0
    · exact .inr ⟨sb, h1, h2, map_far hG2 (map_far hG h3 hr2) hs2⟩
/-- The row of places turns, and the state with it. -/
theorem Mem.resets (h : Mem B S tb st mb m sv fv hs sets fr ks k D w) {w1 : World} {sv' : Value} {hs' : List HV} {sets' : Nat → List Att} (hG : w.grownBy w1 sv.ownBlock) (ho : w1.ownsRow 0 88 2 sv' hs'.length (fl heldC hs')) (hS : ∀ g, sv'.ownBlock = some g → S g)
    (hn : ∀ (i : Nat) (x : HV), hs'[i]? = some x → (hs[i]? = some x ∧ sets' i = sets i) ∨ (x = noHV ∧ sets' i = [])) :
    Mem B S tb st mb m sv' fv hs' sets' fr ks k D (w1.setCell ⟨st, 2, none⟩ sv') := by
  have ht1 : ∀ g', sv.ownBlock = some g' → ∃ cur, w.heap[g']? = some (.cells cur 88 (0, 0)) := fun g' hg' => own_tag h.hsv hg'
  have hr1 : ∀ e : TypeId, e ≠ 88 → ∀ g', sv.ownBlock = some g' → ∃ o', w.heap[g']? = some o' ∧ ∀ c, o' ≠ .cells c e (0, 0) := fun e he g' hg' => by
    obtain ⟨cur, hcur⟩ := ht1 g' hg'
    exact ⟨_, hcur, fun c hc => by injection hc with _ hc _; exact he hc.symm⟩
  have hr2 : ∀ g', sv.ownBlock = some g' → ∃ c e fz, w.heap[g']? = some (.cells c e fz) := fun g' hg' => by obtain ⟨cur, hcur⟩ := ht1 g' hg'; exact ⟨_, _, _, hcur⟩
  have hst1 := far hG h.hst (fun g' hg' => by obtain ⟨cur, hcur⟩ := ht1 g' hg'; exact ⟨_, hcur, by simp⟩)
  have htb1 := far hG h.ht (fun g' hg' => by obtain ⟨cur, hcur⟩ := ht1 g' hg'; exact ⟨_, hcur, by simp⟩)
  have hG2 := grown_set (w := w1) (g := st) (o := 2) sv'
  have hs1 : ∀ e : TypeId, e ≠ 83 → ∀ g', some st = some g' → ∃ o', w1.heap[g']? = some o' ∧ ∀ c, o' ≠ .cells c e (0, 0) := fun e he g' hg' => by
    cases hg'
    exact ⟨_, hst1, fun c hc => by injection hc with _ hc _; exact he hc.symm⟩
  have hs2 : ∀ g', some st = some g' → ∃ c e fz, w1.heap[g']? = some (.cells c e fz) := fun g' hg' => by cases hg'; exact ⟨_, _, _, hst1⟩
  refine ⟨far hG2 htb1 (fun g' hg' => by cases hg'; exact ⟨_, hst1, by simp⟩), ?_, h.good, ?_, map_far hG2 (map_far hG h.hmb hr2) hs2, own_far hG2 ho (hs1 _ (by decide)), own_far hG2 (own_far hG h.hfv (hr1 _ (by decide))) (hs1 _ (by decide)), fun j y hy => ?_,
    h.sT, h.sSt, h.sMb, hS, h.sFv, fun j y hy => ?_, h.sB, by have := h.hB; have := hG.size; have := hG2.size; omega⟩
  · rw [heap_set sv' hst1]; rfl
  · rcases h.hm with h0 | ⟨sb, h1, h2, h3⟩
    · exact .inl h0
    · exact .inr ⟨sb, h1, h2, map_far hG2 (map_far hG h3 hr2) hs2⟩
  · rcases hn j y hy with ⟨q1, q2⟩ | ⟨rfl, q2⟩
    · rw [q2]; exact own_far hG2 (own_far hG (h.hrow j y q1) (hr1 _ (by decide))) (hs1 _ (by decide))
    · rw [q2]; exact ⟨rfl, .inl ⟨rfl, rfl⟩⟩
  · rcases hn j y hy with ⟨q1, q2⟩ | ⟨rfl, q2⟩
    · exact h.sRow j y q1
    · intro g hg; simp [Value.ownBlock] at hg
end
end Go.Proofs.YtiobcifpebehnaaDoor
