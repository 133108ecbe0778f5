
import Derived.Test.YteilhjkkgdgbkaaNP
import Derived.Test.YteilhjkkgdgbkaaNDS
import Derived.Maps.OwnSet
import Derived.Maps.RangeWalk
import Derived.Maps.Ext
/- NR: an arena of texts made of numbers, and the map of the numbers -/
namespace Go.Proofs.Yteilhjkkgdgbkaa
open Go.RowKit Go.Shelf
open Go.Maps
set_option linter.unusedVariables false

/-- The text made of a number. -/
def txtN (x : Int) : ByteArray := strOfNums [x % 256, x / 256 % 256, 7]
set_option maxRecDepth 100000 in
theorem text_any (x : Int) (w : World) :
    Calls Try.prog 21 #[.int .i64 x] w fun e w' => e = .returned (.string (txtN x)) ∧ Below w.heap.size w w' := by
  have hb := (Below.refl w.heap.size w).alloc (Nat.le_refl _) (.cells #[.int .u8 (x % 256), .int .u8 (x / 256 % 256), .int .u8 7] 5)
  have hh := heap_alloc_new w (.cells #[.int .u8 (x % 256), .int .u8 (x / 256 % 256), .int .u8 7] 5)
  have hcv := conv_str (P := Try.prog) 55 9 5 Try.underlying55 Try.underlying5 Try.underlying9 (.slice (some ⟨w.heap.size, 0, none⟩) 3 3) [x % 256, x / 256 % 256, 7] (w.alloc (.cells #[.int .u8 (x % 256), .int .u8 (x / 256 % 256), .int .u8 7] 5))
    (.inr ⟨w.heap.size, 0, 3, rfl, by simp, by simp, by decide, fun j hj => by
      match j, hj with
      | 0, _ => rw [cell_of_row _ w.heap.size 0 _ _ _ hh]; rfl
      | 1, _ => rw [cell_of_row _ w.heap.size 1 _ _ _ hh]; rfl
      | 2, _ => rw [cell_of_row _ w.heap.size 2 _ _ _ hh]; rfl⟩)
  have e : strOfNums [x % 256, x / 256 % 256, 7] = txtN x := rfl
  rw [e] at hcv
  go_enter Try.func21, Try.ntmps21
  go_wp2
  go_ret
  exact ⟨rfl, hb⟩

/-! ### the numbers in the place of texts -/
def mapA (A : ArS Int) : ArS ByteArray := ⟨A.ps.map (Option.map txtN), A.free⟩
section
variable {A : ArS Int} {D : DataW Unit}
theorem mapA_at (A : ArS Int) (i : Nat) : (mapA A).at_ i = (A.at_ i).map txtN := by
  unfold ArS.at_ mapA
  simp only [List.getD_eq_getElem?_getD, List.getElem?_map]
  cases A.ps[i]? <;> rfl
theorem mapA_has (A : ArS Int) (i : Int) : (mapA A).has i = A.has i := by
  unfold ArS.has
  rw [mapA_at]
  cases A.at_ i.toNat <;> rfl
theorem mapA_fresh (A : ArS Int) : (mapA A).fresh = A.fresh := by
  unfold ArS.fresh mapA
  simp
theorem mapA_take (A : ArS Int) (x : Int) : (mapA A).take (txtN x) = mapA (A.take x) := by
  unfold ArS.take mapA
  simp only
  cases A.free.getLast? with
  | none => simp
  | some i => simp [List.map_set]
theorem mapA_out (A : ArS Int) (i : Nat) : (mapA A).out i = mapA (A.out i) := by
  unfold ArS.out mapA
  simp [List.map_set]
theorem mapA_put (A : ArS Int) (i : Nat) (x : Int) : (mapA A).put i (txtN x) = mapA (A.put i x) := by
  unfold ArS.put mapA
  simp [List.map_set]
theorem mapA_cnt (l : List (Option Int)) : cnt (l.map (Option.map txtN)) = cnt l := by
  unfold cnt
  rw [List.countP_map]
  congr 1
  funext o
  cases o <;> rfl
theorem mapA_ok (h : (mapA A).Ok) : A.Ok := by
  refine ⟨fun i hi => ?_, h.freeN, ?_⟩
  · obtain ⟨h1, h2⟩ := h.freeB i hi
    rw [mapA_at] at h2
    refine ⟨by simpa [mapA] using h1, ?_⟩
    cases e : A.at_ i with
    | none => rfl
    | some x => rw [e] at h2; cases h2
  · have := h.cnt
    unfold mapA at this
    simpa [mapA_cnt] using this
theorem mapA_new : mapA newA = (newA : ArS ByteArray) := rfl
/-- What the map holds. -/
structure WantR (A : ArS Int) (D : DataW Unit) : Prop where
  has : ∀ i : Int, Maps.has D (.int .i64 i) = A.has i
  at_ : ∀ (k : Nat) (x : Int), A.at_ k = some x → ∀ z, D.atKey (.int .i64 (k : Nat)) z = .lit (.int .i64 x)
  size : Maps.size D = cnt A.ps
theorem WantR.new : WantR newA (.map []) := ⟨fun i => by unfold newA ArS.has ArS.at_; simp [Maps.has], fun k x h => by simp [newA, ArS.at_] at h, rfl⟩
theorem lit_ne {i j : Int} (h : i ≠ j) : Lit.int .i64 i ≠ Lit.int .i64 j := fun e => h (by injection e)
theorem has_of (A A' : ArS Int) (k : Nat) (b : Bool) (h1 : (A'.at_ k).isSome = b) (h2 : ∀ j, j ≠ k → A'.at_ j = A.at_ j) (i : Int) : A'.has i = if i = (k : Nat) then b else A.has i := by
  by_cases e : i = (k : Nat)
  · rw [if_pos e, e, has_nat, h1]
  · rw [if_neg e]
    unfold ArS.has
    by_cases h0 : 0 ≤ i
    · rw [h2 i.toNat (by omega)]
    · rw [decide_eq_false h0]; rfl
theorem WantR.store {A' : ArS Int} (h : WantR A D) (hD : Maps.Tidy D) (k : Nat) (x : Int) (hk : A'.at_ k = some x) (hj : ∀ j, j ≠ k → A'.at_ j = A.at_ j) (hc : cnt A'.ps = if A.has (k : Nat) then cnt A.ps else cnt A.ps + 1) :
    WantR A' (D.put (.int .i64 (k : Nat)) (.lit (.int .i64 x))) := by
  refine ⟨fun i => ?_, fun j y hy z => ?_, ?_⟩
  · rw [has_of A A' k true (by rw [hk]; rfl) hj i]
    by_cases e : i = (k : Nat)
    · rw [if_pos e, e]; exact Maps.has_put_same hD.isMap (show WideAt.IsKeyLit (.int .i64 (k : Nat)) from trivial) _
    · rw [if_neg e, Maps.has_put_other (lit_ne e), h.has]
  · by_cases e : j = k
    · subst e
      rw [hk] at hy
      cases hy
      exact Maps.atKey_put_same hD.isMap (show WideAt.IsKeyLit (.int .i64 (j : Nat)) from trivial) _ _
    · rw [Maps.atKey_put_other (lit_ne (by omega))]
      rw [hj j e] at hy
      exact h.at_ j y hy z
  · rw [Maps.size_put hD, h.has, hc, h.size]
theorem WantR.drop {A' : ArS Int} (h : WantR A D) (hD : Maps.Tidy D) (k : Nat) (hk : A'.at_ k = none) (hj : ∀ j, j ≠ k → A'.at_ j = A.at_ j) (hh : A.has (k : Nat) = true) (hc : cnt A'.ps + 1 = cnt A.ps) :
    WantR A' (D.del (.int .i64 (k : Nat))) := by
  refine ⟨fun i => ?_, fun j y hy z => ?_, ?_⟩
  · rw [has_of A A' k false (by rw [hk]; rfl) hj i]
    by_cases e : i = (k : Nat)
    · rw [if_pos e, e]; exact Maps.has_del_same
    · rw [if_neg e, Maps.has_del_other (lit_ne e), h.has]
  · by_cases e : j = k
    · subst e
      rw [hk] at hy
      cases hy
    · rw [Maps.atKey_del_other (lit_ne (by omega))]
      rw [hj j e] at hy
      exact h.at_ j y hy z
  · have := Maps.size_del hD (k := .int .i64 (k : Nat))
    rw [h.has, hh, if_pos rfl, h.size] at this
    omega
theorem len_take {A : ArS Int} (h : A.Ok) (x : Int) : (A.take x).ps.length = max A.ps.length (cnt (A.take x).ps) ∧ cnt (A.take x).ps = cnt A.ps + 1 := by
  have h1 := h.cnt
  have h2 := (ok_take h x).cnt
  unfold ArS.take at h2 ⊢
  cases hf : A.free.getLast? with
  | none =>
    rw [hf] at h2
    have e := List.getLast?_eq_none_iff.1 hf
    rw [e] at h1
    simp only [List.length_nil, List.length_append, List.length_singleton, e] at h1 h2 ⊢
    omega
  | some i =>
    rw [hf] at h2
    obtain ⟨r, e⟩ := List.getLast?_eq_some_iff.1 hf
    rw [e] at h1
    simp only [e, List.length_append, List.length_singleton, List.dropLast_concat, List.length_set] at h1 h2 ⊢
    omega
theorem WantR.take (h : WantR A D) (hD : Maps.Tidy D) (hok : A.Ok) (x : Int) : WantR (A.take x) (D.put (.int .i64 (A.fresh : Nat)) (.lit (.int .i64 x))) := by
  refine h.store hD A.fresh x (by rw [at_take hok, if_pos rfl]) (fun j hj => by rw [at_take hok, if_neg hj]) ?_
  rw [has_nat, (freshA hok).1, if_neg (by simp), (len_take hok x).2]
theorem WantR.put_ (h : WantR A D) (hD : Maps.Tidy D) {k : Nat} {y : Int} (hy : A.at_ k = some y) (x : Int) : WantR (A.put k x) (D.put (.int .i64 (k : Nat)) (.lit (.int .i64 x))) := by
  have hlt := at_lt hy
  refine h.store hD k x (by rw [at_put hlt, if_pos rfl]) (fun j hj => by rw [at_put hlt, if_neg hj]) ?_
  rw [some_has hy, if_pos rfl]
  have := cnt_set A.ps k (some x) hlt
  have e : A.ps.getD k none = some y := hy
  rw [e] at this
  simpa [ArS.put] using this
theorem cnt_out {k : Nat} {y : Int} (hy : A.at_ k = some y) : cnt (A.out k).ps + 1 = cnt A.ps := by
  have hlt := at_lt hy
  have := cnt_set A.ps k none hlt
  have e : A.ps.getD k none = some y := hy
  rw [e] at this
  simpa [ArS.out] using this
theorem WantR.out_ (h : WantR A D) (hD : Maps.Tidy D) {k : Nat} {y : Int} (hy : A.at_ k = some y) : WantR (A.out k) (D.del (.int .i64 (k : Nat))) :=
  h.drop hD k (by rw [at_out, if_pos rfl]) (fun j hj => by rw [at_out, if_neg hj]) (some_has hy) (cnt_out hy)
theorem WantR.del_no (h : WantR A D) {i : Int} (hi : A.has i = false) : D.del (.int .i64 i) = D := Maps.del_of_not_has (by rw [h.has, hi])
end
end Go.Proofs.Yteilhjkkgdgbkaa
