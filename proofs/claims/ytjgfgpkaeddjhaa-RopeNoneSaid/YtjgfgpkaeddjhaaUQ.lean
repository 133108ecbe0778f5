
import Derived.Test.YtjgfgpkaeddjhaaUP
import Derived.Test.YtjgfgpkaeddjhaaOJ
/- UQ: what the laws want of ropes -/
namespace Go.Proofs.Ytjgfgpkaeddjhaa
open Go.RowKit
set_option linter.unusedVariables false
set_option maxRecDepth 100000
theorem sameB9_self (x : List Int) : sameB9 x x = true := by unfold sameB9; simp
theorem insE_new {l : List Int} (h : l.all code = true) : insE [] l 0 = 0 := by unfold insE; rw [if_pos h]; exact reachE_eq.2 (by simp)
theorem insE_bad {l m : List Int} {i : Int} (h : m.all code = false) : insE l m i = 3 := by unfold insE; rw [if_neg (by rw [h]; decide)]
theorem insE_ok {l m : List Int} {i : Int} (h : m.all code = true) (h1 : 0 ≤ i) (h2 : i ≤ (l.length : Nat)) : insE l m i = 0 := by unfold insE; rw [if_pos h]; exact reachE_eq.2 ⟨h1, Int.le_refl _, h2⟩
theorem insE_no {l m : List Int} {i : Int} (h : m.all code = true) (h1 : ¬ (0 ≤ i ∧ i ≤ (l.length : Nat))) : insE l m i = 5 := by unfold insE; rw [if_pos h]; exact reach_no (by omega)
theorem insL_ok {l m : List Int} {i : Int} (h : insE l m i = 0) : insL l m i = l.take i.toNat ++ (m ++ l.drop i.toNat) := by unfold insL; rw [if_pos h]
theorem insL_not {l m : List Int} {i : Int} (h : insE l m i ≠ 0) : insL l m i = l := by unfold insL; rw [if_neg h]
theorem insL_new {l : List Int} (h : l.all code = true) : insL [] l 0 = l := by rw [insL_ok (insE_new h)]; simp
theorem delL_ok {l : List Int} {i j : Int} (h : reachE l.length i j = 0) : delL l i j = l.take i.toNat ++ l.drop j.toNat := by unfold delL; rw [if_pos h]
theorem delL_not {l : List Int} {i j : Int} (h : reachE l.length i j ≠ 0) : delL l i j = l := by unfold delL; rw [if_neg h]
theorem insL_len (l m : List Int) (i : Int) : (insL l m i).length ≤ l.length + m.length := by
  unfold insL
  split
  · rw [List.length_append, List.length_append, List.length_take, List.length_drop]; omega
  · omega
theorem delL_len (l : List Int) (i j : Int) : (delL l i j).length ≤ l.length := by
  unfold delL
  split
  · rename_i h
    have := reachE_eq.1 h
    rw [List.length_append, List.length_take, List.length_drop]; omega
  · omega
theorem insL_code {l m : List Int} {i : Int} (h : l.all code = true) : (insL l m i).all code = true := by
  unfold insL
  split
  · rename_i he
    have hm : m.all code = true := by
      unfold insE at he
      split at he
      · assumption
      · cases he
    rw [List.all_append, List.all_append, hm]
    simp only [List.all_eq_true, Bool.and_eq_true] at h ⊢
    exact ⟨fun r hr => h r (List.mem_of_mem_take hr), trivial, fun r hr => h r (List.mem_of_mem_drop hr)⟩
  · exact h
theorem delL_code {l : List Int} {i j : Int} (h : l.all code = true) : (delL l i j).all code = true := by
  unfold delL
  split
  · rw [List.all_append]
    simp only [List.all_eq_true, Bool.and_eq_true] at h ⊢
    exact ⟨fun r hr => h r (List.mem_of_mem_take hr), fun r hr => h r (List.mem_of_mem_drop hr)⟩
  · exact h
section
variable {B rb sb : Nat} {l m x : List Int} {w w' W : World}
theorem rv_insE (h : RV B rb l w) (hQ : l.length + m.length + 64 ≤ 400000) (i : Int) (v : Value) (hv : Ints .i32 w v m) {E : Int} (hE : insE l m i = E) {L : List Int} (hL : insL l m i = L) :
    Calls Try.prog 16 #[.pointer (some ⟨rb, 0, none⟩), .int .i64 i, v] w fun e w' => e = .returned (.int .i64 E) ∧ RV B rb L w' ∧ Below B w w' := by
  subst hE hL
  exact rv_ins h hQ i v hv
theorem rv_delE (h : RV B rb l w) (hQ : l.length + 64 ≤ 400000) (i j : Int) {E : Int} (hE : reachE l.length i j = E) {L : List Int} (hL : delL l i j = L) :
    Calls Try.prog 17 #[.pointer (some ⟨rb, 0, none⟩), .int .i64 i, .int .i64 j] w fun e w' => e = .returned (.int .i64 E) ∧ RV B rb L w' ∧ Below B w w' := by
  subst hE hL
  exact rv_del h hQ i j
theorem r2_insE (h : R2 B rb l sb m w) (hQ : l.length + x.length + 64 ≤ 400000) (i : Int) (v : Value) (hv : Ints .i32 w v x) {E : Int} (hE : insE l x i = E) {L : List Int} (hL : insL l x i = L) :
    Calls Try.prog 16 #[.pointer (some ⟨rb, 0, none⟩), .int .i64 i, v] w fun e w' => e = .returned (.int .i64 E) ∧ R2 B rb L sb m w' ∧ Below B w w' := by
  subst hE hL
  exact r2_ins h hQ i v hv
theorem r2_delE (h : R2 B rb l sb m w) (hQ : l.length + 64 ≤ 400000) (i j : Int) {E : Int} (hE : reachE l.length i j = E) {L : List Int} (hL : delL l i j = L) :
    Calls Try.prog 17 #[.pointer (some ⟨rb, 0, none⟩), .int .i64 i, .int .i64 j] w fun e w' => e = .returned (.int .i64 E) ∧ R2 B rb L sb m w' ∧ Below B w w' := by
  subst hE hL
  exact r2_del h hQ i j
/-- All runes. -/
theorem rv_all (h : RV B rb l w) (hQ : l.length ≤ 400000) {n : Nat} (hn : l.length = n) : Calls Try.prog 11 #[.pointer (some ⟨rb, 0, none⟩), .int .i64 0, .int .i64 (n : Nat)] w fun e w' => ∃ v, e = .returned (.tuple #[v, .int .i64 0]) ∧ Ints .i32 w' v l ∧ Below w.heap.size w w' := by
  subst hn
  have := rv_slice h hQ 0 l.length (Nat.zero_le _) (Nat.le_refl _)
  rw [List.take_of_length_le (Nat.le_refl _), List.drop_zero] at this
  exact this
theorem rv_lenN (h : RV B rb l w) {n : Nat} (hn : l.length = n) : Calls Try.prog 19 #[.pointer (some ⟨rb, 0, none⟩)] w fun e w' => e = .returned (.int .i64 (n : Nat)) ∧ Below w.heap.size w w' := by
  subst hn
  exact rv_len h
theorem rv_nlN (h : RV B rb l w) {n : Nat} (hn : nl l = n) : Calls Try.prog 20 #[.pointer (some ⟨rb, 0, none⟩)] w fun e w' => e = .returned (.int .i64 (n : Nat)) ∧ Below w.heap.size w w' := by
  subst hn
  exact rv_newlines h
theorem rv_sliceN (h : RV B rb l w) (hQ : l.length ≤ 400000) (i j : Int) (h0 : 0 ≤ i) (hij : i ≤ j) (hj : j ≤ (l.length : Nat)) {L : List Int} (hL : (l.take j.toNat).drop i.toNat = L) :
    Calls Try.prog 11 #[.pointer (some ⟨rb, 0, none⟩), .int .i64 i, .int .i64 j] w fun e w' => ∃ v, e = .returned (.tuple #[v, .int .i64 0]) ∧ Ints .i32 w' v L ∧ Below w.heap.size w w' := by
  subst hL
  obtain ⟨p, rfl⟩ : ∃ k : Nat, i = (k : Nat) := ⟨i.toNat, by omega⟩
  obtain ⟨q, rfl⟩ : ∃ k : Nat, j = (k : Nat) := ⟨j.toNat, by omega⟩
  exact rv_slice h hQ p q (by omega) (by omega)
theorem rv_lineN (h : RV B rb l w) (hQ : l.length ≤ 400000) (i : Int) (h0 : 0 ≤ i) (hi : i ≤ (l.length : Nat)) {n : Nat} (hn : nl (l.take i.toNat) = n) : Calls Try.prog 12 #[.pointer (some ⟨rb, 0, none⟩), .int .i64 i] w fun e w' => e = .returned (.tuple #[.int .i64 (n : Nat), .int .i64 0]) ∧ Below w.heap.size w w' := by
  subst hn
  obtain ⟨p, rfl⟩ : ∃ k : Nat, i = (k : Nat) := ⟨i.toNat, by omega⟩
  exact rv_lineOf h hQ p (by omega)
theorem same9_self (v1 v2 : Value) (xs ys : List Int) (he : xs = ys) (w : World) (hv1 : Ints .i32 w v1 xs) (hv2 : Ints .i32 w v2 ys) : Calls Try.prog 24 #[v1, v2] w fun e w' => e = .returned (.bool true) ∧ Below w.heap.size w w' := by
  subst he
  refine (same9_any v1 v2 xs xs w hv1 hv2).mono ?_
  rintro e w' ⟨rfl, n, rfl⟩
  exact ⟨by rw [sameB9_self], blw_drewN (Below.refl _ _) n⟩
end
/-- A list in three parts. -/
theorem cut3 (l : List Int) (p q : Nat) (h1 : p ≤ q) (h2 : q ≤ l.length) : ∃ A C D : List Int, l = A ++ (C ++ D) ∧ A.length = p ∧ C.length = q - p := by
  refine ⟨l.take p, (l.drop p).take (q - p), l.drop q, ?_, by rw [List.length_take]; omega, by rw [List.length_take, List.length_drop]; omega⟩
  have : l.drop q = (l.drop p).drop (q - p) := by rw [List.drop_drop]; congr 1; omega
  rw [this, List.take_append_drop, List.take_append_drop]
theorem either_eq (l a b : List Int) (p q : Nat) (h1 : p ≤ q) (h2 : q ≤ l.length) :
    (l.take q ++ (b ++ l.drop q)).take p ++ (a ++ (l.take q ++ (b ++ l.drop q)).drop p) = (l.take p ++ (a ++ l.drop p)).take (q + a.length) ++ (b ++ (l.take p ++ (a ++ l.drop p)).drop (q + a.length)) := by
  obtain ⟨A, C, D, rfl, hA, hC⟩ := cut3 l p q h1 h2
  have t1 : (A ++ (C ++ D)).take q = A ++ C := by rw [← List.append_assoc]; exact List.take_left' (by rw [List.length_append]; omega)
  have t2 : (A ++ (C ++ D)).drop q = D := by rw [← List.append_assoc]; exact List.drop_left' (by rw [List.length_append]; omega)
  have t3 : (A ++ (C ++ D)).take p = A := List.take_left' hA
  have t4 : (A ++ (C ++ D)).drop p = C ++ D := List.drop_left' hA
  rw [t1, t2, t3, t4]
  have t5 : ((A ++ C) ++ (b ++ D)).take p = A := by rw [List.append_assoc]; exact List.take_left' hA
  have t6 : ((A ++ C) ++ (b ++ D)).drop p = C ++ (b ++ D) := by rw [List.append_assoc]; exact List.drop_left' hA
  have e : A ++ (a ++ (C ++ D)) = (A ++ (a ++ C)) ++ D := by simp
  have hl : (A ++ (a ++ C)).length = q + a.length := by rw [List.length_append, List.length_append]; omega
  have t7 : (A ++ (a ++ (C ++ D))).take (q + a.length) = A ++ (a ++ C) := by rw [e]; exact List.take_left' hl
  have t8 : (A ++ (a ++ (C ++ D))).drop (q + a.length) = D := by rw [e]; exact List.drop_left' hl
  rw [t5, t6, t7, t8]
  simp
theorem deletes_eq (l : List Int) (i j k m : Nat) (h1 : i ≤ j) (h2 : j ≤ k) (h3 : k ≤ m) (h4 : m ≤ l.length) :
    (l.take k ++ l.drop m).take i ++ (l.take k ++ l.drop m).drop j = (l.take i ++ l.drop j).take (k - (j - i)) ++ (l.take i ++ l.drop j).drop (m - (j - i)) := by
  obtain ⟨A, C, E, rfl, hA, hC⟩ := cut3 l i j h1 (by omega)
  obtain ⟨F, Y, D, rfl, hF, hY⟩ := cut3 E (k - j) (m - j) (by omega) (by rw [List.length_append, List.length_append] at h4; omega)
  have t1 : (A ++ (C ++ (F ++ (Y ++ D)))).take k = A ++ (C ++ F) := by
    rw [show A ++ (C ++ (F ++ (Y ++ D))) = (A ++ (C ++ F)) ++ (Y ++ D) by simp]; exact List.take_left' (by rw [List.length_append, List.length_append]; omega)
  have t2 : (A ++ (C ++ (F ++ (Y ++ D)))).drop m = D := by
    rw [show A ++ (C ++ (F ++ (Y ++ D))) = (A ++ (C ++ (F ++ Y))) ++ D by simp]; exact List.drop_left' (by rw [List.length_append, List.length_append, List.length_append]; omega)
  have t3 : (A ++ (C ++ (F ++ (Y ++ D)))).take i = A := List.take_left' hA
  have t4 : (A ++ (C ++ (F ++ (Y ++ D)))).drop j = F ++ (Y ++ D) := by
    rw [← List.append_assoc]; exact List.drop_left' (by rw [List.length_append]; omega)
  rw [t1, t2, t3, t4]
  have t5 : ((A ++ (C ++ F)) ++ D).take i = A := by rw [List.append_assoc]; exact List.take_left' hA
  have t6 : ((A ++ (C ++ F)) ++ D).drop j = F ++ D := by
    rw [show (A ++ (C ++ F)) ++ D = (A ++ C) ++ (F ++ D) by simp]; exact List.drop_left' (by rw [List.length_append]; omega)
  have t7 : (A ++ (F ++ (Y ++ D))).take (k - (j - i)) = A ++ F := by
    rw [← List.append_assoc]; exact List.take_left' (by rw [List.length_append]; omega)
  have t8 : (A ++ (F ++ (Y ++ D))).drop (m - (j - i)) = D := by
    rw [show A ++ (F ++ (Y ++ D)) = (A ++ (F ++ Y)) ++ D by simp]; exact List.drop_left' (by rw [List.length_append, List.length_append]; omega)
  rw [t5, t6, t7, t8]
  simp
theorem deletes_facts (l : List Int) (i j k m : Int) (h1 : 0 ≤ i) (h2 : i ≤ j) (h3 : j ≤ k) (h4 : k ≤ m) (h5 : m ≤ (l.length : Nat)) : ∃ L : List Int,
    reachE l.length k m = 0 ∧ reachE (delL l k m).length i j = 0 ∧ reachE l.length i j = 0 ∧ reachE (delL l i j).length (k - (j - i)) (m - (j - i)) = 0 ∧ delL (delL l k m) i j = L ∧ delL (delL l i j) (k - (j - i)) (m - (j - i)) = L ∧ (L.length : Int) = (l.length : Int) - (j - i) - (m - k) := by
  have e1 : reachE l.length k m = 0 := reachE_eq.2 (by omega)
  have e3 : reachE l.length i j = 0 := reachE_eq.2 (by omega)
  have d1 := delL_ok e1
  have d3 := delL_ok e3
  have l1 : (delL l k m).length = k.toNat + (l.length - m.toNat) := by rw [d1, List.length_append, List.length_take, List.length_drop]; omega
  have l3 : (delL l i j).length = i.toNat + (l.length - j.toNat) := by rw [d3, List.length_append, List.length_take, List.length_drop]; omega
  have e2 : reachE (delL l k m).length i j = 0 := reachE_eq.2 (by omega)
  have e4 : reachE (delL l i j).length (k - (j - i)) (m - (j - i)) = 0 := reachE_eq.2 (by omega)
  refine ⟨_, e1, e2, e3, e4, rfl, ?_, ?_⟩
  · rw [delL_ok e4, delL_ok e2, d1, d3, show (k - (j - i)).toNat = k.toNat - (j.toNat - i.toNat) by omega, show (m - (j - i)).toNat = m.toNat - (j.toNat - i.toNat) by omega]
    exact (deletes_eq l i.toNat j.toNat k.toNat m.toNat (by omega) (by omega) (by omega) (by omega)).symm
  · rw [delL_ok e2, List.length_append, List.length_take, List.length_drop, l1]
    omega
theorem either_facts (l a b : List Int) (i j : Int) (hl : l.all code = true) (ha : a.all code = true) (hb : b.all code = true) (h1 : 0 ≤ i) (h2 : i ≤ j) (h3 : j ≤ (l.length : Nat)) : ∃ L : List Int,
    insE l b j = 0 ∧ insE (insL l b j) a i = 0 ∧ insE l a i = 0 ∧ insE (insL l a i) b (j + (a.length : Nat)) = 0 ∧ insL (insL l b j) a i = L ∧ insL (insL l a i) b (j + (a.length : Nat)) = L ∧ L.length = l.length + a.length + b.length := by
  have e1 : insE l b j = 0 := insE_ok hb (by omega) h3
  have e3 : insE l a i = 0 := insE_ok ha h1 (by omega)
  have d1 := insL_ok e1
  have d3 := insL_ok e3
  have l1 : (insL l b j).length = l.length + b.length := by rw [d1, List.length_append, List.length_append, List.length_take, List.length_drop]; omega
  have l3 : (insL l a i).length = l.length + a.length := by rw [d3, List.length_append, List.length_append, List.length_take, List.length_drop]; omega
  have e2 : insE (insL l b j) a i = 0 := insE_ok ha h1 (by omega)
  have e4 : insE (insL l a i) b (j + (a.length : Nat)) = 0 := insE_ok hb (by omega) (by omega)
  refine ⟨_, e1, e2, e3, e4, rfl, ?_, ?_⟩
  · rw [insL_ok e4, insL_ok e2, d1, d3, show (j + (a.length : Nat)).toNat = j.toNat + a.length by omega]
    exact (either_eq l a b i.toNat j.toNat (by omega) (by omega)).symm
  · rw [insL_ok e2, List.length_append, List.length_append, List.length_take, List.length_drop, l1]
    omega
end Go.Proofs.Ytjgfgpkaeddjhaa
