
import Derived.Test.YtkejebjppnhidaaC3
import Derived.Shelf.Abstract
/- C4: Compose, Less; what Diff does with two rows -/
namespace Go.Proofs.Ytkejebjppnhidaa
open Go.RowKit Go.Shelf
set_option linter.unusedVariables false

def putC : Option Chg × Option Chg → List Chg
  | (_, some y) => [y]
  | (some x, none) => [x]
  | (none, none) => []
def putL : Option Chg × Option Chg → List Chg
  | (_, some _) => []
  | (some x, none) => [x]
  | (none, none) => []
def putD : Option Chg × Option Chg → List Chg
  | (some x, none) => [goneC x.key]
  | (none, some y) => [y]
  | (some x, some y) => if x = y then [] else [y]
  | (none, none) => []
theorem put_len (f : Option Chg × Option Chg → List Chg) (hf : ∀ p, (f p).length ≤ 1) : ∀ T : Told, (T.flatMap f).length ≤ T.length
  | [] => by simp
  | p :: T => by have := put_len f hf T; have := hf p; simp only [List.flatMap_cons, List.length_append, List.length_cons]; omega
theorem putC_one (p : Option Chg × Option Chg) : (putC p).length ≤ 1 := by rcases p with ⟨_ | _, _ | _⟩ <;> simp [putC]
theorem putL_one (p : Option Chg × Option Chg) : (putL p).length ≤ 1 := by rcases p with ⟨_ | _, _ | _⟩ <;> simp [putL]
theorem putD_one (p : Option Chg × Option Chg) : (putD p).length ≤ 1 := by
  rcases p with ⟨_ | _, _ | _⟩ <;> simp [putD]
  split <;> simp
theorem told_one (f : Option Chg × Option Chg → List Chg) (T : Told) (p : Option Chg × Option Chg) : (T ++ [p]).flatMap f = T.flatMap f ++ f p := by simp
theorem sbs_len : ∀ (n : Nat) (l r : List Chg), l.length + r.length ≤ n → (sbs l r).length ≤ n
  | n, [], [], _ => by rw [sbs_nn]; simp
  | 0, x :: l, r, h => by simp at h
  | 0, [], y :: r, h => by simp at h
  | n + 1, x :: l, [], h => by rw [sbs_cn]; have := sbs_len n l [] (by simp at h ⊢; omega); simp; omega
  | n + 1, [], y :: r, h => by rw [sbs_nc]; have := sbs_len n [] r (by simp at h ⊢; omega); simp; omega
  | n + 1, x :: l, y :: r, h => by
    by_cases h1 : x.key < y.key
    · rw [sbs_lt h1]; have := sbs_len n l (y :: r) (by simp at h ⊢; omega); simp; omega
    · by_cases h2 : y.key < x.key
      · rw [sbs_gt h2]; have := sbs_len n (x :: l) r (by simp at h ⊢; omega); simp; omega
      · rw [sbs_eq h1 h2]; have := sbs_len n l r (by simp at h ⊢; omega); simp; omega

/-- A row that does not lie in that block. -/
def Off (B0 : Nat) (v : Value) (xs : List Chg) : Prop := ∀ b o n c, v = .slice (some ⟨b, o, none⟩) n c → b ≠ B0 ∨ xs = []
theorem off_old {w : World} {v : Value} {xs : List Chg} (h : Crow w v xs) {B0 : Nat} (hB : w.heap.size ≤ B0) : Off B0 v xs := by
  intro b o n c e
  subst e
  by_cases h0 : xs = []
  · exact .inr h0
  · obtain ⟨b', o', e, -, -, -, hb, -⟩ := Crow.opn h (List.length_pos_iff.2 h0)
    injection e with e
    injection e with e1 e2
    subst e1
    exact .inl (by omega)
theorem off_own {w : World} {base : Nat} {e : TypeId} {size : Nat} {v : Value} {n : Nat} {cs : List Value} (h : w.ownsRow base e size v n cs) {B0 : Nat} (hB : B0 < base) (xs : List Chg) : Off B0 v xs := by
  intro b o n c hv
  subst hv
  have := own_base h (k := b) rfl
  exact .inl (by omega)
/-- A list of changes that the call made. -/
@[reducible] def Own6 (w w' : World) (u : Value) (ls : List Chg) : Prop := w'.ownsRow w.heap.size 52 6 u ls.length (fl chC ls)
theorem own6_row {w w' : World} {u : Value} {ls : List Chg} (h : Own6 w w' u ls) : Crow w' u ls := (Row.of_owns h).1

theorem acc_start {W1 : World} {B0 : Nat} (hc : W1.cell? ⟨B0, 0, none⟩ = some (.slice none 0 0)) (hf : W1.frozen? ⟨B0, 0, none⟩ = false) : Acc W1 B0 (.slice none 0 0) [] W1 :=
  ⟨hc, hf, World.ownsRow_nil _ _ _ _, ⟨rfl, rfl, rfl, Nat.le_refl _, fun _ _ _ => rfl⟩, World.block_lt_of_cell? _ _ hc⟩

theorem pays_compose {W1 : World} {B0 : Nat} {v1 v2 : Value} {xs ys : List Chg} (h1 : Crow W1 v1 xs) (h2 : Crow W1 v2 ys) (n1 : Off B0 v1 xs) (n2 : Off B0 v2 ys) (hl : xs.length + ys.length ≤ 1000000000000) :
    Pays 44 #[.pointer (some ⟨B0, 0, none⟩)] (fun T W => ∃ v, Acc W1 B0 v (T.flatMap putC) W) v1 v2 xs ys := by
  refine ⟨enters_of Try.func44 (by kernel_rfl) rfl, fun T W ⟨v, h⟩ => h.row h1 n1, fun T W ⟨v, h⟩ => h.row h2 n2, fun T W n ⟨v, h⟩ => ⟨v, h.drewN n⟩, ?_⟩
  intro T x y p q W ⟨v, h⟩ ho hlt hp hq
  have hlen := put_len putC putC_one T
  rw [told_one]
  cases y with
  | some y =>
    obtain ⟨b, o, rfl, hat⟩ := hq
    exact compose_y W1 B0 v p _ W h b o y hat (by omega)
  | none =>
    obtain rfl : q = .pointer none := hq
    cases x with
    | none => exact absurd ho (by simp [One])
    | some x =>
      obtain ⟨b, o, rfl, hat⟩ := hp
      exact compose_x W1 B0 v _ W h b o x hat (by omega)
theorem pays_less {W1 : World} {B0 : Nat} {v1 v2 : Value} {xs ys : List Chg} (h1 : Crow W1 v1 xs) (h2 : Crow W1 v2 ys) (n1 : Off B0 v1 xs) (n2 : Off B0 v2 ys) (hl : xs.length + ys.length ≤ 1000000000000) :
    Pays 46 #[.pointer (some ⟨B0, 0, none⟩)] (fun T W => ∃ v, Acc W1 B0 v (T.flatMap putL) W) v1 v2 xs ys := by
  refine ⟨enters_of Try.func46 (by kernel_rfl) rfl, fun T W ⟨v, h⟩ => h.row h1 n1, fun T W ⟨v, h⟩ => h.row h2 n2, fun T W n ⟨v, h⟩ => ⟨v, h.drewN n⟩, ?_⟩
  intro T x y p q W ⟨v, h⟩ ho hlt hp hq
  have hlen := put_len putL putL_one T
  rw [told_one]
  cases y with
  | some y =>
    obtain ⟨b, o, rfl, hat⟩ := hq
    show Calls _ _ _ _ fun e W' => _ ∧ ∃ v, Acc W1 B0 v (T.flatMap putL ++ []) W'
    rw [List.append_nil]
    exact less_y W1 B0 v p _ W h b o y hat (by omega)
  | none =>
    obtain rfl : q = .pointer none := hq
    cases x with
    | none => exact absurd ho (by simp [One])
    | some x =>
      obtain ⟨b, o, rfl, hat⟩ := hp
      exact less_x W1 B0 v _ W h b o x hat (by omega)
theorem pays_diff {W1 : World} {B0 : Nat} {v1 v2 : Value} {xs ys : List Chg} (h1 : Crow W1 v1 xs) (h2 : Crow W1 v2 ys) (n1 : Off B0 v1 xs) (n2 : Off B0 v2 ys) (hl : xs.length + ys.length ≤ 1000000000000) :
    Pays 45 #[.pointer (some ⟨B0, 0, none⟩)] (fun T W => ∃ v, Acc W1 B0 v (T.flatMap putD) W) v1 v2 xs ys := by
  refine ⟨enters_of Try.func45 (by kernel_rfl) rfl, fun T W ⟨v, h⟩ => h.row h1 n1, fun T W ⟨v, h⟩ => h.row h2 n2, fun T W n ⟨v, h⟩ => ⟨v, h.drewN n⟩, ?_⟩
  intro T x y p q W ⟨v, h⟩ ho hlt hp hq
  have hlen := put_len putD putD_one T
  rw [told_one]
  cases y with
  | some y =>
    obtain ⟨b, o, rfl, hat⟩ := hq
    cases x with
    | none =>
      obtain rfl : p = .pointer none := hp
      exact diff_y W1 B0 v _ W h b o y hat (by omega)
    | some x =>
      obtain ⟨b2, o2, rfl, hat2⟩ := hp
      by_cases hxy : x = y
      · rw [show putD (some x, some y) = [] by simp [putD, hxy], List.append_nil]
        exact diff_same W1 B0 v _ W h b2 o2 x hat2 b o y hat hxy (by omega)
      · rw [show putD (some x, some y) = [y] by simp [putD, hxy]]
        exact diff_xy W1 B0 v _ W h b2 o2 x hat2 b o y hat hxy (by omega)
  | none =>
    obtain rfl : q = .pointer none := hq
    cases x with
    | none => exact absurd ho (by simp [One])
    | some x =>
      obtain ⟨b, o, rfl, hat⟩ := hp
      exact diff_x W1 B0 v _ W h b o x hat (by omega)

def comp (xs ys : List Chg) : List Chg := (sbs xs ys).flatMap putC
def less (xs ys : List Chg) : List Chg := (sbs xs ys).flatMap putL
def dif (xs ys : List Chg) : List Chg := (sbs xs ys).flatMap putD
theorem comp_len (xs ys : List Chg) : (comp xs ys).length ≤ xs.length + ys.length := Nat.le_trans (put_len putC putC_one _) (sbs_len _ _ _ (Nat.le_refl _))
theorem less_len (xs ys : List Chg) : (less xs ys).length ≤ xs.length + ys.length := Nat.le_trans (put_len putL putL_one _) (sbs_len _ _ _ (Nat.le_refl _))
theorem dif_len (xs ys : List Chg) : (dif xs ys).length ≤ xs.length + ys.length := Nat.le_trans (put_len putD putD_one _) (sbs_len _ _ _ (Nat.le_refl _))

/-- The cell of its own, in which a call has its list. -/
theorem nilcell_new (w : World) (t : TypeId) : (w.alloc (.cells #[.slice none 0 0] t)).cell? ⟨w.heap.size, 0, none⟩ = some (.slice none 0 0) := by
  rw [cell_of_row _ w.heap.size _ _ t (0, 0) (heap_alloc_new w _)]; rfl
theorem frozen_new (w : World) (t : TypeId) : (w.alloc (.cells #[.slice none 0 0] t)).frozen? ⟨w.heap.size, 0, none⟩ = false := by
  unfold World.frozen?
  rw [show (w.alloc (.cells #[.slice none 0 0] t)).heap[w.heap.size]? = _ from heap_alloc_new w _]
  rfl
theorem acc_end {w W1 w' : World} {v : Value} {ls : List Chg} (h : Acc W1 w.heap.size v ls w') (hb : Below w.heap.size w W1) : Own6 w w' v ls ∧ Below w.heap.size w w' :=
  ⟨owns_mono h.own hb.size, ⟨h.grown.os.trans hb.os, h.grown.tape.trans hb.tape, h.grown.output.trans hb.output, Nat.le_trans hb.size h.grown.size, fun k hk => (h.grown.block k (Nat.lt_of_lt_of_le hk hb.size) (by simp; omega)).trans (hb.block k hk)⟩⟩

set_option maxRecDepth 100000 in
theorem compose_any (v1 v2 : Value) (xs ys : List Chg) (w : World) (h1 : Crow w v1 xs) (h2 : Crow w v2 ys) (hl : xs.length + ys.length ≤ 1000000000000) :
    Calls Try.prog 24 #[v1, v2] w fun e w' => ∃ u, e = .returned u ∧ Own6 w w' u (comp xs ys) ∧ Below w.heap.size w w' := by
  have hb : Below w.heap.size w (w.alloc (.cells #[.slice none 0 0] 23)) := (Below.refl _ _).alloc (Nat.le_refl _) _
  have HS := Lib.hid (side_any _ _ v1 v2 xs ys _ (pays_compose (h1.below hb (Nat.le_refl _)) (h2.below hb (Nat.le_refl _)) (off_old h1 (Nat.le_refl _)) (off_old h2 (Nat.le_refl _)) hl) _ ⟨_, acc_start (nilcell_new w _) (frozen_new w _)⟩)
  have HB := Lib.hid hb
  clear h1 h2 hb
  go_enter Try.func24, Try.ntmps24
  go_wp2_with (go_at_call 43; refine HS.out.mono ?_; rintro e w1 ⟨rfl, v, hA⟩; have hc := hA.cell)
  go_ret
  exact ⟨_, rfl, acc_end hA HB.out⟩
set_option maxRecDepth 100000 in
theorem less_any6 (v1 v2 : Value) (xs ys : List Chg) (w : World) (h1 : Crow w v1 xs) (h2 : Crow w v2 ys) (hl : xs.length + ys.length ≤ 1000000000000) :
    Calls Try.prog 27 #[v1, v2] w fun e w' => ∃ u, e = .returned u ∧ Own6 w w' u (less xs ys) ∧ Below w.heap.size w w' := by
  have hb : Below w.heap.size w (w.alloc (.cells #[.slice none 0 0] 23)) := (Below.refl _ _).alloc (Nat.le_refl _) _
  have HS := Lib.hid (side_any _ _ v1 v2 xs ys _ (pays_less (h1.below hb (Nat.le_refl _)) (h2.below hb (Nat.le_refl _)) (off_old h1 (Nat.le_refl _)) (off_old h2 (Nat.le_refl _)) hl) _ ⟨_, acc_start (nilcell_new w _) (frozen_new w _)⟩)
  have HB := Lib.hid hb
  clear h1 h2 hb
  go_enter Try.func27, Try.ntmps27
  go_wp2_with (go_at_call 43; refine HS.out.mono ?_; rintro e w1 ⟨rfl, v, hA⟩; have hc := hA.cell)
  go_ret
  exact ⟨_, rfl, acc_end hA HB.out⟩
end Go.Proofs.Ytkejebjppnhidaa
