
import Derived.Test.YtoppgdhidnpibaaOE
import Derived.ChangeKeysEq
import Derived.Laws.StructEq
/- OF: rows compared as a whole; splitting; joining -/
namespace Go.Proofs.Ytoppgdhidnpibaa
open Go.RowKit
set_option linter.unusedVariables false

theorem row_inj {xs ys : List Int} (h : row xs = row ys) : xs = ys := by
  have := congrArg Array.toList h
  simp only [row, List.toList_toArray] at this
  exact (List.map_inj_right (fun a b e => by injection e)).1 this
theorem items_row (d : Nat) (xs ys : List Int) (hx : xs.length = 32) (hy : ys.length = 32) (w : World) : ∀ (is : List Nat), (∀ i ∈ is, i < 32) →
    (Op.eqItems (d + 1) 21 1 (row xs) (row ys) is).run Try.prog w = .ok (is.all (fun i => xs.getD i 0 == ys.getD i 0)) w
  | [], _ => by simp [Op.eqItems]
  | i :: is, h => by
    have hi := h i (by simp)
    have p : Try.prog.plainKey 21 = true := by kernel_rfl
    have ih := items_row d xs ys hx hy w is (fun j hj => h j (by simp [hj]))
    simp only [Op.eqItems, Sem.run_bind, Nat.mul_one, run_part_plain w p (row_get xs i (by omega)), run_part_plain w p (row_get ys i (by omega)), Result.andThen_ok, run_equalIn_int w d _ _ _ _ _ Try.underlying21, List.all_cons]
    cases (xs.getD i 0 == ys.getD i 0) with
    | false => rfl
    | true => simp only [Bool.not_true, Bool.false_eq_true, if_false, Bool.true_and]; exact ih
theorem cells32 : Try.prog.cellsOf 21 = 1 := by kernel_rfl
theorem all_eq {xs ys : List Int} (hx : xs.length = 32) (hy : ys.length = 32) : ((List.range 32).all (fun i => xs.getD i 0 == ys.getD i 0)) = (xs == ys) := by
  by_cases h : xs = ys
  · subst h; simp
  · rw [show (xs == ys) = false from beq_eq_false_iff_ne.2 h, List.all_eq_false]
    have : ∃ i, i < 32 ∧ xs.getD i 0 ≠ ys.getD i 0 := by
      apply Classical.byContradiction
      intro hn
      apply h
      apply List.ext_getElem (by omega)
      intro i h1 h2
      have e : xs.getD i 0 = ys.getD i 0 := Classical.byContradiction fun he => hn ⟨i, by omega, he⟩
      simpa [List.getD, h1, h2] using e
    obtain ⟨i, hi, hne⟩ := this
    exact ⟨i, by simp [hi], by simpa using hne⟩
theorem slots_fst (l : List Int) {i : Nat} (h : l.length ≤ 32) (hi : i ≤ 32) : fst (slots l) i = slots (l.take i) := by
  unfold fst slots
  rw [List.take_append, List.length_map, ← List.map_take, List.take_replicate, List.append_assoc, List.replicate_append_replicate, List.length_take]
  congr 2
  omega
theorem slots_bhd (l : List Int) {i : Nat} (h : l.length ≤ 32) (hi : i ≤ 32) : bhd (slots l) i = slots (l.drop i) := by
  unfold bhd slots
  rw [List.drop_append, List.length_map, ← List.map_drop, List.drop_replicate, List.append_assoc, List.replicate_append_replicate, List.length_drop]
  congr 2
  omega
theorem slots_nil : slots [] = zero32 := rfl
theorem slots_len_eq {a b : List Int} (ha : Chunky a) (hb : Chunky b) (h : slots a = slots b) : a.length = b.length := by
  apply Classical.byContradiction
  intro hn
  have key : ∀ {a b : List Int}, Chunky a → Chunky b → slots a = slots b → ¬ a.length < b.length := by
    intro a b ha hb h hlt
    have e := congrArg (fun s => s.getD a.length 0) h
    simp only [slots_out (Nat.le_refl a.length), slots_in hlt] at e
    have := (hb.2 (b.getD a.length 0) (by simp [List.getD, hlt])).1
    omega
  exact absurd (key ha hb h) (by have := key hb ha h.symm; omega)
theorem slots_inj {a b : List Int} (ha : Chunky a) (hb : Chunky b) (h : slots a = slots b) : a = b := by
  have hl := slots_len_eq ha hb h
  apply List.ext_getElem hl
  intro i h1 h2
  have e := congrArg (fun s => s.getD i 0) h
  simp only [slots_in h1, slots_in h2] at e
  have e' : a.getD i 0 = b.getD i 0 := by omega
  simpa [List.getD, h1, h2] using e'
theorem slots_beq {a b : List Int} (ha : Chunky a) (hb : Chunky b) : (slots a == slots b) = (a == b) := by
  by_cases h : a = b
  · subst h; simp
  · rw [beq_eq_false_iff_ne.2 h, beq_eq_false_iff_ne]; exact fun e => h (slots_inj ha hb e)
theorem Chunky.take {l : List Int} (h : Chunky l) (i : Nat) : Chunky (l.take i) := ⟨by have := h.1; rw [List.length_take]; omega, fun r hr => h.2 r (List.mem_of_mem_take hr)⟩
theorem Chunky.drop {l : List Int} (h : Chunky l) (i : Nat) : Chunky (l.drop i) := ⟨by have := h.1; rw [List.length_drop]; omega, fun r hr => h.2 r (List.mem_of_mem_drop hr)⟩
theorem chunky_nil : Chunky [] := ⟨by simp, by simp⟩
theorem Chunky.app {a b : List Int} (ha : Chunky a) (hb : Chunky b) (h : a.length + b.length ≤ 32) : Chunky (a ++ b) :=
  ⟨by rw [List.length_append]; exact h, fun r hr => (List.mem_append.1 hr).elim (ha.2 r) (hb.2 r)⟩
end Go.Proofs.Ytoppgdhidnpibaa
