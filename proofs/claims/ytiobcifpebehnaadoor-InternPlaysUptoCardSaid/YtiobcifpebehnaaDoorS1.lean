
import Derived.Test.YtiobcifpebehnaaDoorG
import Derived.Maps.RangeWalk
/- S1: keys as plain data -/
namespace Go.Proofs.YtiobcifpebehnaaDoor
open Go.RowKit
set_option linter.unusedVariables false

/-- A key of attributes. -/
structure Key where
  id : Int
  blk : Bool
  kind : Int
  aft : Bool
  bef : Bool
  grp : Int

/-- A key as the program lays it, whole and as its six cells. -/
@[reducible] def kv (k : Key) : Value := .agg #[.int .i64 k.id, .bool k.blk, .int .u8 k.kind, .bool k.aft, .bool k.bef, .int .i64 k.grp]
@[reducible] def kc (k : Key) : List Value := [.int .i64 k.id, .bool k.blk, .int .u8 k.kind, .bool k.aft, .bool k.bef, .int .i64 k.grp]
@[reducible] def noKey : Key := ⟨0, false, 0, false, false, 0⟩
instance : Inhabited Key := ⟨noKey⟩

def keq (a b : Key) : Bool := (a.id == b.id) && (a.blk == b.blk) && (a.kind == b.kind) && (a.aft == b.aft) && (a.bef == b.bef) && (a.grp == b.grp)
theorem keq_iff (a b : Key) : keq a b = true ↔ a = b := by
  obtain ⟨a1, a2, a3, a4, a5, a6⟩ := a
  obtain ⟨b1, b2, b3, b4, b5, b6⟩ := b
  simp [keq]
  constructor
  · rintro ⟨⟨⟨⟨⟨h1, h2⟩, h3⟩, h4⟩, h5⟩, h6⟩; exact ⟨h1, h2, h3, h4, h5, h6⟩
  · rintro ⟨h1, h2, h3, h4, h5, h6⟩; exact ⟨⟨⟨⟨⟨h1, h2⟩, h3⟩, h4⟩, h5⟩, h6⟩
theorem keq_self (a : Key) : keq a a = true := (keq_iff a a).2 rfl

/-- What a key's numbers are within. -/
structure KeyW (k : Key) : Prop where
  id : (Lit.int .i64 k.id).wf = true
  kind : (Lit.int .u8 k.kind).wf = true
  grp : (Lit.int .i64 k.grp).wf = true

/-- The first key with that number. -/
def fnd (ks : List Key) (id : Int) : Option Key := ks.find? (fun k => k.id == id)
theorem fnd_nil (id : Int) : fnd [] id = none := rfl
theorem fnd_cons (x : Key) (r : List Key) (id : Int) : fnd (x :: r) id = if x.id = id then some x else fnd r id := by
  unfold fnd
  rw [List.find?_cons]
  by_cases h : x.id = id
  · simp [h]
  · rw [show (x.id == id) = false by simpa using h, if_neg h]
theorem fnd_some {ks : List Key} {id : Int} {k : Key} (h : fnd ks id = some k) : k ∈ ks ∧ k.id = id := by
  unfold fnd at h
  exact ⟨List.mem_of_find?_eq_some h, by have := List.find?_some h; simpa using this⟩
theorem fnd_none {ks : List Key} {id : Int} : fnd ks id = none ↔ ∀ k ∈ ks, k.id ≠ id := by
  unfold fnd
  simp
theorem fnd_snoc (l : List Key) (x : Key) (id : Int) : fnd (l ++ [x]) id = (fnd l id).or (if x.id = id then some x else none) := by
  unfold fnd
  rw [List.find?_append]
  congr 1
  by_cases h : x.id = id <;> simp [h]

/-- No two keys have one number. -/
def Apart (ks : List Key) : Prop := ks.Pairwise (fun a b => a.id ≠ b.id)
theorem Apart.perm {ks l : List Key} (h : Apart ks) (hp : l.Perm ks) : Apart l :=
  (hp.pairwise_iff (R := fun a b : Key => a.id ≠ b.id) (fun {_ _} h => h.symm)).2 h
theorem fnd_mem {ks : List Key} (hA : Apart ks) {k : Key} (hk : k ∈ ks) : fnd ks k.id = some k := by
  induction ks with
  | nil => cases hk
  | cons x r ih =>
    obtain ⟨h1, h2⟩ := List.pairwise_cons.1 hA
    rw [fnd_cons]
    rcases List.mem_cons.1 hk with rfl | hk
    · rw [if_pos rfl]
    · rw [if_neg (h1 k hk)]; exact ih h2 hk

/-- May a key be. -/
def mayK (k : Key) : Bool := decide (1 ≤ k.id ∧ k.id ≤ 1000 ∧ 1 ≤ k.kind ∧ k.kind ≤ 4 ∧ 0 ≤ k.grp ∧ k.grp ≤ 8 ∧ (k.blk = true ∨ k.grp = 0) ∧ ¬ (k.blk = true ∧ k.bef = true))
/-- Keys that may be, each alone, and no two of one number. -/
def Good (ks : List Key) : Prop := (∀ k ∈ ks, mayK k = true) ∧ Apart ks
def mayKs (ks : List Key) : Prop := ks.length ≤ 64 ∧ Good ks
theorem good_nil : Good [] := ⟨by simp, List.Pairwise.nil⟩
theorem Good.take {ks : List Key} (h : Good ks) (j : Nat) : Good (ks.take j) :=
  ⟨fun k hk => h.1 k (List.mem_of_mem_take hk), h.2.sublist (List.take_sublist _ _)⟩
theorem good_snoc {l : List Key} {k : Key} (h : Good l) (hm : mayK k = true) (hf : fnd l k.id = none) : Good (l ++ [k]) := by
  refine ⟨fun x hx => ?_, ?_⟩
  · rcases List.mem_append.1 hx with hx | hx
    · exact h.1 x hx
    · simp at hx; subst hx; exact hm
  · refine List.pairwise_append.2 ⟨h.2, by simp, fun a ha b hb => ?_⟩
    simp at hb
    subst hb
    exact fnd_none.1 hf a ha
theorem bad_snoc {l : List Key} {k : Key} (h : mayK k = false ∨ (fnd l k.id).isSome = true) : ¬ Good (l ++ [k]) := by
  rintro ⟨h1, h2⟩
  rcases h with h | h
  · have := h1 k (by simp)
    rw [h] at this
    cases this
  · obtain ⟨x, hx⟩ := Option.isSome_iff_exists.1 h
    obtain ⟨m, e⟩ := fnd_some hx
    exact (List.pairwise_append.1 h2).2.2 x m k (by simp) e
theorem ktake_snoc (ks : List Key) (j : Nat) (h : j < ks.length) : ks.take (j + 1) = ks.take j ++ [ks[j]] := by
  rw [List.take_succ_eq_append_getElem h]
theorem good_step {ks : List Key} {j : Nat} (hj : j < ks.length) (h : Good (ks.take j)) (hm : mayK ks[j] = true) (hf : fnd (ks.take j) ks[j].id = none) : Good (ks.take (j + 1)) := by
  rw [ktake_snoc ks j hj]; exact good_snoc h hm hf
theorem bad_step {ks : List Key} {j : Nat} (hj : j < ks.length) (h : mayK ks[j] = false ∨ (fnd (ks.take j) ks[j].id).isSome = true) : ¬ Good ks := fun hg => by
  have := hg.take (j + 1)
  rw [ktake_snoc ks j hj] at this
  exact bad_snoc h this
theorem mayK_range {k : Key} (h : mayK k = true) : 1 ≤ k.id ∧ k.id ≤ 1000 := by
  unfold mayK at h; rw [decide_eq_true_iff] at h; exact ⟨h.1, h.2.1⟩

/-! ### by rising numbers -/
def risingTo (ks : List Key) (n : Nat) : List Key := (List.range n).filterMap fun i : Nat => fnd ks ((i : Int) + 1)
def rising (ks : List Key) : List Key := risingTo ks 1000
theorem risingTo_zero (ks : List Key) : risingTo ks 0 = [] := rfl
theorem risingTo_succ (ks : List Key) (n : Nat) : risingTo ks (n + 1) = risingTo ks n ++ (fnd ks ((n : Int) + 1)).toList := by
  unfold risingTo
  rw [List.range_succ, List.filterMap_append]
  cases h : fnd ks ((n : Int) + 1) <;> simp [h]
theorem risingTo_mem {ks : List Key} {n : Nat} {k : Key} (h : k ∈ risingTo ks n) : k ∈ ks ∧ 1 ≤ k.id ∧ k.id ≤ n := by
  unfold risingTo at h
  obtain ⟨i, hi, hf⟩ := List.mem_filterMap.1 h
  obtain ⟨h1, h2⟩ := fnd_some hf
  have := List.mem_range.1 hi
  exact ⟨h1, by omega, by omega⟩
theorem risingTo_strict (ks : List Key) : ∀ n, (risingTo ks n).Pairwise (fun a b => a.id < b.id)
  | 0 => by simp [risingTo_zero]
  | n + 1 => by
    rw [risingTo_succ]
    refine List.pairwise_append.2 ⟨risingTo_strict ks n, ?_, fun a ha b hb => ?_⟩
    · cases fnd ks ((n : Int) + 1) <;> simp
    · have h1 := (risingTo_mem ha).2.2
      have h2 : fnd ks ((n : Int) + 1) = some b := by simpa using hb
      have := (fnd_some h2).2
      omega
theorem rising_mem {ks : List Key} (h : Good ks) (k : Key) : k ∈ rising ks ↔ k ∈ ks := by
  constructor
  · exact fun hk => (risingTo_mem hk).1
  · intro hk
    have hr := mayK_range (h.1 k hk)
    refine List.mem_filterMap.2 ⟨(k.id - 1).toNat, List.mem_range.2 (by omega), ?_⟩
    have : (((k.id - 1).toNat : Nat) : Int) + 1 = k.id := by omega
    rw [this]
    exact fnd_mem h.2 hk
theorem strict_ext : ∀ (a b : List Key), a.Pairwise (fun x y => x.id < y.id) → b.Pairwise (fun x y => x.id < y.id) → (∀ k, k ∈ a ↔ k ∈ b) → a = b
  | [], [], _, _, _ => rfl
  | [], y :: s, _, _, h => absurd ((h y).2 (by simp)) (by simp)
  | x :: r, [], _, _, h => absurd ((h x).1 (by simp)) (by simp)
  | x :: r, y :: s, ha, hb, h => by
    obtain ⟨a1, a2⟩ := List.pairwise_cons.1 ha
    obtain ⟨b1, b2⟩ := List.pairwise_cons.1 hb
    have hxy : x = y := by
      rcases List.mem_cons.1 ((h x).1 (by simp)) with e | hx
      · exact e
      · rcases List.mem_cons.1 ((h y).2 (by simp)) with e | hy
        · exact e.symm
        · have := b1 x hx
          have := a1 y hy
          omega
    subst hxy
    congr 1
    refine strict_ext r s a2 b2 fun k => ⟨fun hk => ?_, fun hk => ?_⟩
    · rcases List.mem_cons.1 ((h k).1 (by simp [hk])) with e | hk'
      · subst e; have := a1 k hk; omega
      · exact hk'
    · rcases List.mem_cons.1 ((h k).2 (by simp [hk])) with e | hk'
      · subst e; have := b1 k hk; omega
      · exact hk'
/-- Whatever strictly rises and has the same keys is the keys by rising numbers. -/
theorem rising_unique {l ks : List Key} (h : Good ks) (hs : l.Pairwise (fun a b => a.id < b.id)) (hm : ∀ k, k ∈ l ↔ k ∈ ks) : l = rising ks :=
  strict_ext _ _ hs (risingTo_strict ks 1000) fun k => (hm k).trans (rising_mem h k).symm
theorem rising_strict (ks : List Key) : (rising ks).Pairwise (fun a b => a.id < b.id) := risingTo_strict ks 1000
theorem strict_nodup {l : List Key} (h : l.Pairwise (fun a b => a.id < b.id)) : l.Nodup := h.imp fun {a b} hl e => by subst e; omega
theorem apart_nodup {l : List Key} (h : Apart l) : l.Nodup := h.imp fun {a b} hl e => hl (by rw [e])
theorem rising_perm {ks : List Key} (h : Good ks) : (rising ks).Perm ks :=
  (List.perm_ext_iff_of_nodup (strict_nodup (rising_strict ks)) (apart_nodup h.2)).2 (rising_mem h)
theorem rising_length {ks : List Key} (h : Good ks) : (rising ks).length = ks.length := (rising_perm h).length_eq
/-- The order in which keys are handed in is nothing. -/
theorem rising_of_perm {ks l : List Key} (h : Good ks) (hp : l.Perm ks) : rising l = rising ks :=
  rising_unique h (rising_strict l) fun k => (rising_mem ⟨fun x hx => h.1 x (hp.mem_iff.1 hx), Apart.perm h.2 hp⟩ k).trans (hp.mem_iff)
theorem rising_nil : rising [] = [] := rising_unique good_nil List.Pairwise.nil (fun _ => Iff.rfl) |>.symm

/-- The others of a key's group. -/
def grpOf (ks : List Key) (id : Int) : List Int :=
  match fnd ks id with
  | none => []
  | some k => if k.grp = 0 then [] else ((rising ks).filter fun o => o.grp == k.grp && o.id != id).map (·.id)
theorem grpOf_nil (id : Int) : grpOf [] id = [] := rfl
end Go.Proofs.YtiobcifpebehnaaDoor

/- S2: the map -/
namespace Go.Proofs.YtiobcifpebehnaaDoor
open Go.RowKit
set_option linter.unusedVariables false

/-- How a key in a map reads. -/
def keyElem : Value → Option (DataW Key × List MemPlace)
  | .agg cs => match cs.toList with
    | [.int .i64 a, .bool b, .int .u8 c, .bool d, .bool e, .int .i64 f] => some (.held ⟨a, b, c, d, e, f⟩, [])
    | _ => none
  | _ => none
theorem keyElem_mk (k : Key) : keyElem (kv k) = some (.held k, []) := rfl
theorem keyElem_inv {v : Value} {z : DataW Key × List MemPlace} (h : keyElem v = some z) : ∃ k, v = kv k ∧ z = (.held k, []) := by
  unfold keyElem at h
  split at h
  · rename_i cs
    split at h
    · rename_i a b c d e f hcs
      cases h
      refine ⟨⟨a, b, c, d, e, f⟩, ?_, rfl⟩
      have : cs = #[.int .i64 a, .bool b, .int .u8 c, .bool d, .bool e, .int .i64 f] := by
        cases cs; simp at hcs; rw [hcs]
      rw [this]
    · cases h
  · cases h

def datOn (D : DataW Key) (ks : List Key) : DataW Key := ks.foldl (fun D k => D.put (.int .i64 k.id) (.held k)) D
def dat (ks : List Key) : DataW Key := datOn (.map []) ks
theorem dat_nil : dat [] = .map [] := rfl
theorem dat_snoc (ks : List Key) (k : Key) : dat (ks ++ [k]) = (dat ks).put (.int .i64 k.id) (.held k) := by simp [dat, datOn, List.foldl_append]
theorem int_key (n : Int) : WideAt.IsKeyLit (.int .i64 n) := trivial
theorem datOn_isMap : ∀ (ks : List Key) (D : DataW Key), Maps.IsMap D → Maps.IsMap (datOn D ks)
  | [], _, h => h
  | x :: r, D, h => datOn_isMap r _ (h.put _ _)
theorem datOn_has (id : Int) : ∀ (ks : List Key) (D : DataW Key), Maps.IsMap D → Maps.has (datOn D ks) (.int .i64 id) = (Maps.has D (.int .i64 id) || (fnd ks id).isSome)
  | [], D, h => by simp [datOn, fnd_nil]
  | x :: r, D, h => by
    have ih := datOn_has id r (D.put (.int .i64 x.id) (.held x)) (h.put _ _)
    show Maps.has (datOn (D.put (.int .i64 x.id) (.held x)) r) _ = _
    rw [ih, fnd_cons]
    by_cases e : x.id = id
    · subst e
      rw [Maps.has_put_same h (int_key _), if_pos rfl]
      simp
    · rw [Maps.has_put_other (fun h => e (by injection h with _ h; exact h.symm)), if_neg e]
theorem dat_has (ks : List Key) (id : Int) : Maps.has (dat ks) (.int .i64 id) = (fnd ks id).isSome := by
  unfold dat
  rw [datOn_has id ks _ Maps.isMap_empty]
  simp [Maps.has]
theorem datOn_at (id : Int) (z : DataW Key) : ∀ (ks : List Key) (D : DataW Key), Maps.IsMap D → Apart ks → (datOn D ks).atKey (.int .i64 id) z = match fnd ks id with | some k => .held k | none => D.atKey (.int .i64 id) z
  | [], D, _, _ => rfl
  | x :: r, D, h, hA => by
    obtain ⟨a1, a2⟩ := List.pairwise_cons.1 hA
    have ih := datOn_at id z r (D.put (.int .i64 x.id) (.held x)) (h.put _ _) a2
    show (datOn (D.put (.int .i64 x.id) (.held x)) r).atKey _ _ = _
    rw [ih, fnd_cons]
    by_cases e : x.id = id
    · subst e
      have hn : fnd r x.id = none := fnd_none.2 fun k hk => (a1 k hk).symm
      rw [hn, if_pos rfl]
      exact Maps.atKey_put_same h (int_key _) _ _
    · rw [if_neg e]
      cases fnd r id with
      | some k => rfl
      | none => exact Maps.atKey_put_other (fun h => e (by injection h with _ h; exact h.symm)) _ _
theorem dat_at {ks : List Key} (hA : Apart ks) (id : Int) (z : Key) : (dat ks).atKey (.int .i64 id) (.held z) = .held ((fnd ks id).getD z) := by
  unfold dat
  rw [datOn_at id _ ks _ Maps.isMap_empty hA]
  cases fnd ks id <;> rfl
theorem dat_at_some {ks : List Key} (hA : Apart ks) {id : Int} {y : DataW Key} (h : ∀ z, (dat ks).atKey (.int .i64 id) z = y) : ∃ k, fnd ks id = some k ∧ y = .held k := by
  have h1 := h (.map [])
  have h2 := h .nil
  unfold dat at h1 h2
  rw [datOn_at id _ ks _ Maps.isMap_empty hA] at h1 h2
  cases hf : fnd ks id with
  | some k => rw [hf] at h1; exact ⟨k, rfl, h1.symm⟩
  | none =>
    rw [hf] at h1 h2
    have : (DataW.map [] : DataW Key) = .nil := by
      have e1 : (DataW.map [] : DataW Key) = y := h1
      have e2 : (DataW.nil : DataW Key) = y := h2
      rw [e1, e2]
    cases this
theorem datOn_size : ∀ (ks : List Key) (D : DataW Key), Maps.Tidy D → Apart ks → (∀ k ∈ ks, Maps.has D (.int .i64 k.id) = false) → Maps.size (datOn D ks) = Maps.size D + ks.length
  | [], D, _, _, _ => rfl
  | x :: r, D, h, hA, hn => by
    obtain ⟨a1, a2⟩ := List.pairwise_cons.1 hA
    show Maps.size (datOn (D.put (.int .i64 x.id) (.held x)) r) = _
    rw [datOn_size r _ (h.put (int_key _) _) a2 (fun k hk => ?_), Maps.size_put h, hn x (by simp)]
    · simp; omega
    · rw [Maps.has_put_other (fun h => a1 k hk (by injection h with _ h; exact h.symm))]
      exact hn k (by simp [hk])
theorem dat_size {ks : List Key} (hA : Apart ks) : Maps.size (dat ks) = ks.length := by
  unfold dat
  rw [datOn_size ks _ Maps.tidy_empty hA (fun k _ => rfl)]
  simp [Maps.size]
end Go.Proofs.YtiobcifpebehnaaDoor
