
import Derived.Test.YteodfbkfpboehaaEO
/- EP: what calls leave, as plain data: how much; what is put in and taken out; what a patch turns; two parts side by side; two calls in either order -/
namespace Go.Proofs.Yteodfbkfpboehaa
open Go.RowKit
set_option linter.unusedVariables false

theorem mrE_iff {n : Nat} {i j : Int} : mrE n i j = 0 ↔ 0 ≤ i ∧ i ≤ j ∧ j ≤ (n : Nat) := by
  unfold mrE
  split
  · exact ⟨fun _ => by assumption, fun _ => rfl⟩
  · exact ⟨fun h => absurd h (by decide), fun h => (by contradiction)⟩
theorem mrE_two (n : Nat) (i j : Int) : mrE n i j = 0 ∨ mrE n i j = 5 := by
  unfold mrE
  split
  · exact .inl rfl
  · exact .inr rfl
theorem insL_no {l : List (List Att)} {k : Int} {L : List (List Att)} (h : mrE l.length k k ≠ 0) : insL l k L = l := by unfold insL; rw [if_neg h]
theorem insL_yes {l : List (List Att)} {k : Int} {L : List (List Att)} (h : mrE l.length k k = 0) : insL l k L = l.take k.toNat ++ (L ++ l.drop k.toNat) := by unfold insL; rw [if_pos h]
theorem delL_yes {l : List (List Att)} {i j : Int} (h : mrE l.length i j = 0) : delL l i j = l.take i.toNat ++ l.drop j.toNat := by unfold delL; rw [if_pos h]
theorem delL_no {l : List (List Att)} {i j : Int} (h : mrE l.length i j ≠ 0) : delL l i j = l := by unfold delL; rw [if_neg h]
theorem patL_yes {l : List (List Att)} {i j : Int} {X : List Chg} (h : mrE l.length i j = 0) : patL l i j X = l.take i.toNat ++ ((part l i j).map (fun s => app s X) ++ l.drop j.toNat) := by unfold patL; rw [if_pos h]
theorem patL_no {l : List (List Att)} {i j : Int} {X : List Chg} (h : mrE l.length i j ≠ 0) : patL l i j X = l := by unfold patL; rw [if_neg h]

/-! ### how much -/
structure PB (k : Nat) (l : List (List Att)) : Prop where
  n : l.length ≤ 60 * k
  s : ∀ s ∈ l, s.length ≤ 70 * (k + 1) ∧ Rise s
theorem PB.nil : PB 0 [] := ⟨by simp, fun s h => by cases h⟩
theorem PB.le {k m : Nat} {l : List (List Att)} (h : PB k l) (hk : k ≤ m) : PB m l := ⟨by have := h.n; omega, fun s hs => ⟨by have := (h.s s hs).1; omega, (h.s s hs).2⟩⟩
theorem PB.ins {k : Nat} {l : List (List Att)} {o : OpL} (h : PB k l) (ho : smallO o) : PB (k + 1) (insL l o.i o.L) := by
  by_cases hr : mrE l.length o.i o.i = 0
  · rw [insL_yes hr]
    refine ⟨?_, fun s hs => ?_⟩
    · have := h.n; have := ho.1
      simp only [List.length_append, List.length_take, List.length_drop]; omega
    · rw [List.mem_append, List.mem_append] at hs
      rcases hs with hs | hs | hs
      · exact (h.le (Nat.le_succ k)).s s (List.mem_of_mem_take hs)
      · exact ⟨by have := (ho.2.2.2 s hs).1; omega, (ho.2.2.2 s hs).2⟩
      · exact (h.le (Nat.le_succ k)).s s (List.mem_of_mem_drop hs)
  · rw [insL_no hr]; exact h.le (Nat.le_succ k)
theorem PB.del {k : Nat} {l : List (List Att)} (h : PB k l) (i j : Int) : PB (k + 1) (delL l i j) := by
  by_cases hr : mrE l.length i j = 0
  · rw [delL_yes hr]
    obtain ⟨h1, h2, h3⟩ := mrE_iff.1 hr
    refine ⟨?_, fun s hs => ?_⟩
    · have := h.n
      simp only [List.length_append, List.length_take, List.length_drop]; omega
    · rw [List.mem_append] at hs
      rcases hs with hs | hs
      · exact (h.le (Nat.le_succ k)).s s (List.mem_of_mem_take hs)
      · exact (h.le (Nat.le_succ k)).s s (List.mem_of_mem_drop hs)
  · rw [delL_no hr]; exact h.le (Nat.le_succ k)
theorem patL_len (l : List (List Att)) (i j : Int) (X : List Chg) : (patL l i j X).length = l.length := by
  by_cases hr : mrE l.length i j = 0
  · rw [patL_yes hr]
    obtain ⟨h1, h2, h3⟩ := mrE_iff.1 hr
    simp only [part, List.length_append, List.length_map, List.length_take, List.length_drop]; omega
  · rw [patL_no hr]
theorem PB.pat {k : Nat} {l : List (List Att)} {o : OpL} (h : PB k l) (ho : smallO o) : PB (k + 1) (patL l o.i o.m o.x) := by
  refine ⟨by rw [patL_len]; have := h.n; omega, ?_⟩
  by_cases hr : mrE l.length o.i o.m = 0
  · rw [patL_yes hr]
    intro s hs
    rw [List.mem_append, List.mem_append] at hs
    rcases hs with hs | hs | hs
    · exact (h.le (Nat.le_succ k)).s s (List.mem_of_mem_take hs)
    · obtain ⟨t, ht, rfl⟩ := List.mem_map.1 hs
      have hm : t ∈ l := by unfold part at ht; exact List.mem_of_mem_take (List.mem_of_mem_drop ht)
      have h1 := h.s t hm
      refine ⟨?_, app_rise h1.2 ho.2.2.1⟩
      have := app_len t o.x
      have := h1.1
      have := ho.2.1
      omega
    · exact (h.le (Nat.le_succ k)).s s (List.mem_of_mem_drop hs)
  · rw [patL_no hr]; exact (h.le (Nat.le_succ k)).s
/-- What the calls in a law's loop leave. -/
def st4 (l : List (List Att)) (o : OpL) : List (List Att) := if o.k = 1 then insL l o.i o.L else if o.k = 2 then delL l o.i o.m else patL l o.i o.m o.x
def st5 (l : List (List Att)) (o : OpL) : List (List Att) := if o.k = 2 then delL l o.i o.m else insL l o.i o.L
def st6 (l : List (List Att)) (o : OpL) : List (List Att) := if o.k = 2 then delL l o.i o.m else if o.k = 3 then patL l o.i o.m o.x else insL l o.i o.L

/-! ### what is put in and taken out again -/
theorem ins_del {l L : List (List Att)} {k : Int} (h : mrE l.length k k = 0) : mrE (insL l k L).length k (k + (L.length : Nat)) = 0 ∧ delL (insL l k L) k (k + (L.length : Nat)) = l := by
  obtain ⟨h1, -, h3⟩ := mrE_iff.1 h
  have hA : (l.take k.toNat).length = k.toNat := by rw [List.length_take]; omega
  have hz : (insL l k L).length = l.length + L.length := by
    rw [insL_yes h]
    simp only [List.length_append, List.length_take, List.length_drop]; omega
  have hm : mrE (insL l k L).length k (k + (L.length : Nat)) = 0 := mrE_iff.2 ⟨h1, by omega, by rw [hz]; omega⟩
  refine ⟨hm, ?_⟩
  rw [delL_yes hm, insL_yes h, List.take_left' hA, ← List.append_assoc, List.drop_left' (by rw [List.length_append, hA]; omega), List.take_append_drop]

/-! ### what a patch turns -/
theorem pat_get {l : List (List Att)} {i j : Int} {X : List Chg} (h : mrE l.length i j = 0) {k : Nat} (hk : k < l.length) :
    (patL l i j X).getD k [] = if i ≤ (k : Nat) ∧ ((k : Nat) : Int) < j then app (l.getD k []) X else l.getD k [] := by
  obtain ⟨h1, h2, h3⟩ := mrE_iff.1 h
  have hA : (l.take i.toNat).length = i.toNat := by rw [List.length_take]; omega
  have hp : (part l i j).length = j.toNat - i.toNat := by unfold part; rw [List.length_drop, List.length_take]; omega
  rw [patL_yes h]
  simp only [List.getD_eq_getElem?_getD]
  by_cases c1 : k < i.toNat
  · rw [List.getElem?_append_left (by omega), List.getElem?_take_of_lt c1, if_neg (by omega)]
  · rw [List.getElem?_append_right (by omega), hA]
    by_cases c2 : k < j.toNat
    · rw [List.getElem?_append_left (by rw [List.length_map, hp]; omega), if_pos (by omega), List.getElem?_map]
      unfold part
      rw [List.getElem?_drop, List.getElem?_take_of_lt (by omega), show i.toNat + (k - i.toNat) = k by omega, List.getElem?_eq_getElem hk]
      rfl
    · rw [List.getElem?_append_right (by rw [List.length_map, hp]; omega), List.length_map, hp, List.getElem?_drop, if_neg (by omega)]
      congr 2; omega

/-! ### two parts side by side -/
theorem parts_side {l : List (List Att)} {i j k : Int} (h1 : mrE l.length i j = 0) (h2 : mrE l.length j k = 0) : mrE l.length i k = 0 ∧ part l i k = part l i j ++ part l j k := by
  obtain ⟨a1, a2, a3⟩ := mrE_iff.1 h1
  obtain ⟨b1, b2, b3⟩ := mrE_iff.1 h2
  refine ⟨mrE_iff.2 ⟨a1, by omega, b3⟩, ?_⟩
  unfold part
  have e := List.take_append_drop j.toNat (l.take k.toNat)
  rw [List.take_take, Nat.min_eq_left (by omega)] at e
  rw [← e, List.drop_append]
  rw [List.length_take, Nat.min_eq_left (by omega), Nat.sub_eq_zero_of_le (by omega), List.drop_zero]
  rw [e]
theorem part_len {l : List (List Att)} {i j : Int} (h : mrE l.length i j = 0) : (part l i j).length = j.toNat - i.toNat := by
  obtain ⟨a1, a2, a3⟩ := mrE_iff.1 h
  unfold part
  rw [List.length_drop, List.length_take]; omega
theorem part_get {l : List (List Att)} {i j : Int} (h : mrE l.length i j = 0) {n : Nat} (hn : n < (part l i j).length) : atL l (i + (n : Nat)) = (part l i j).getD n [] ∧ atE l (i + (n : Nat)) = 0 := by
  have hl := part_len h
  obtain ⟨a1, a2, a3⟩ := mrE_iff.1 h
  have hi : 0 ≤ i + (n : Nat) ∧ i + (n : Nat) < (l.length : Nat) := by omega
  refine ⟨?_, by unfold atE; rw [if_pos hi]⟩
  unfold atL part
  rw [if_pos hi]
  simp only [List.getD_eq_getElem?_getD]
  rw [List.getElem?_drop, List.getElem?_take_of_lt (by omega), show i.toNat + n = (i + (n : Nat)).toNat by omega]

/-! ### two calls in either order -/
theorem part_left {A B : List (List Att)} {i j : Int} (hj : j.toNat ≤ A.length) : part (A ++ B) i j = part A i j := by
  unfold part
  rw [List.take_append_of_le_length hj]
theorem pat_left {A B : List (List Att)} {i j : Int} {X : List Chg} (h : mrE A.length i j = 0) : mrE (A ++ B).length i j = 0 ∧ patL (A ++ B) i j X = patL A i j X ++ B := by
  obtain ⟨a1, a2, a3⟩ := mrE_iff.1 h
  have hm : mrE (A ++ B).length i j = 0 := mrE_iff.2 ⟨a1, a2, by rw [List.length_append]; omega⟩
  refine ⟨hm, ?_⟩
  rw [patL_yes hm, patL_yes h, part_left (by omega), List.take_append_of_le_length (by omega), List.drop_append_of_le_length (by omega)]
  simp only [List.append_assoc]
theorem apart_facts {l L : List (List Att)} {a i j : Int} {X : List Chg} (hj : j ≤ a) (h1 : mrE l.length i j = 0) (h2 : mrE l.length a a = 0) :
    mrE (insL l a L).length i j = 0 ∧ patL (insL l a L) i j X = insL (patL l i j X) a L := by
  obtain ⟨b1, b2, b3⟩ := mrE_iff.1 h1
  obtain ⟨c1, -, c3⟩ := mrE_iff.1 h2
  have hA : (l.take a.toNat).length = a.toNat := by rw [List.length_take]; omega
  have hm : mrE (l.take a.toNat).length i j = 0 := mrE_iff.2 ⟨b1, b2, by rw [hA]; omega⟩
  have e1 := pat_left (B := L ++ l.drop a.toNat) (X := X) hm
  have e2 := pat_left (B := l.drop a.toNat) (X := X) hm
  rw [List.take_append_drop] at e2
  rw [insL_yes h2]
  refine ⟨e1.1, ?_⟩
  have h3 : mrE (patL l i j X).length a a = 0 := by rw [patL_len]; exact h2
  have hp : (patL (l.take a.toNat) i j X).length = a.toNat := by rw [patL_len, hA]
  rw [e1.2, insL_yes h3, e2.2, List.take_left' hp, List.drop_left' hp]
/-- What a patched set tells of a key. -/
theorem pat_key {a : List Att} {X : List Chg} {c : Chg} (ha : Rise a) (hX : RiseC X) (hc : c ∈ X) : getA (app a X) c.key = if c.g then none else some (toA c) := by
  rw [app_get ha hX, getC_in hX hc]; rfl
end Go.Proofs.Yteodfbkfpboehaa
