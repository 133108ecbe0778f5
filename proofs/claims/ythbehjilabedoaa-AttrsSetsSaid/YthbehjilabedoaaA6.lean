
import Derived.Test.YthbehjilabedoaaA5
/- A6: where a key stands -/
namespace Go.Proofs.Ythbehjilabedoaa
open Go.RowKit
set_option linter.unusedVariables false

def geAt (xs : List Att) (key : Int) (i : Nat) : Bool := decide (key ≤ (xs.getD i noAtt).key)
theorem geAt_of {xs : List Att} {key : Int} {i : Nat} (h : i < xs.length) : geAt xs key i = decide (key ≤ xs[i].key) := by
  unfold geAt; rw [List.getD_eq_getElem?_getD, List.getElem?_eq_getElem h]; rfl
def thereB (xs : List Att) (key : Int) (i : Nat) : Bool := if h : i < xs.length then xs[i].key == key else false
theorem thereB_in {xs : List Att} {key : Int} {i : Nat} (h : i < xs.length) : thereB xs key i = (xs[i].key == key) := by unfold thereB; rw [dif_pos h]
theorem thereB_out {xs : List Att} {key : Int} {i : Nat} (h : ¬ i < xs.length) : thereB xs key i = false := by unfold thereB; rw [dif_neg h]
theorem two_new {w : World} (v1 v2 : Value) (t1 t2 : TypeId) {W : World} (hW : (w.alloc (.cells #[v1] t1)).alloc (.cells #[v2] t2) = W) : W.cell? ⟨w.heap.size, 0, none⟩ = some v1 ∧ W.cell? ⟨w.heap.size + 1, 0, none⟩ = some v2 ∧ Below w.heap.size w W := by
  subst hW
  have h1 := heap_alloc_new w (.cells #[v1] t1)
  have h2 := heap_alloc_new (w.alloc (.cells #[v1] t1)) (.cells #[v2] t2)
  simp only [World.size_alloc] at h2
  refine ⟨?_, ?_, ((Below.refl _ _).alloc (Nat.le_refl _) _).alloc (by simp) _⟩
  · have hc : (w.alloc (.cells #[v1] t1)).cell? ⟨w.heap.size, 0, none⟩ = some v1 := by rw [cell_of_row _ w.heap.size 0 _ _ (0, 0) h1]; rfl
    exact (((Below.refl _ _).alloc (Nat.le_refl _) (.cells #[v2] t2)).cell (p := ⟨w.heap.size, 0, none⟩) (by simp)).trans hc
  · rw [cell_of_row _ (w.heap.size + 1) 0 _ _ (0, 0) h2]; rfl

theorem ret_place {i : Int} {a b : Bool} (h : a = b) : Ending.returned (.tuple #[.int .i64 i, .bool a]) = .returned (.tuple #[.int .i64 i, .bool b]) := by rw [h]

set_option maxRecDepth 100000 in
theorem place_any (v : Value) (xs : List Att) (key : Int) (w : World) (hv : Arow w v xs) (hl : xs.length ≤ 1000000) :
    Calls Try.prog 33 #[v, .int .i64 key] w fun e w' => ∃ i : Nat, Turn (geAt xs key) xs.length i ∧ e = .returned (.tuple #[.int .i64 i, .bool (thereB xs key i)]) ∧ Below w.heap.size w w' := by
  have hmf : ∀ (fn : Fn) (first cap : Array Value) (w : World), (Instr.makeFunc fn first cap).run Try.prog w = .ok (.func fn first cap) w := fun _ _ _ _ => rfl
  generalize hW : (w.alloc (.cells #[v] 23)).alloc (.cells #[.int .i64 key] 3) = W
  obtain ⟨hc0, hc1, hB⟩ := two_new _ _ _ _ hW
  have hvW := hv.below hB (Nat.le_refl _)
  obtain ⟨a1, cap1, rfl⟩ := hv.shape
  clear hv
  have HS := Lib.hid (search_any xs.length (geAt xs key) (.pointer (some ⟨w.heap.size, 0, none⟩)) (.pointer (some ⟨w.heap.size + 1, 0, none⟩)) W hl (fun q i hi => by
    rw [geAt_of hi]
    exact clo_any xs _ key i _ _ _ hi hc0 hc1 (hvW.below (B := W.heap.size) ⟨rfl, rfl, rfl, Nat.le_refl _, fun _ _ => rfl⟩ (Nat.le_refl _))))
  have HV := Lib.hid hvW
  clear hvW
  go_enter Try.func33, Try.ntmps33
  go_wp2_with (go_at_call 43; refine HS.out.mono ?_; rintro e w1 ⟨i, ht, rfl, q, rfl⟩)
  by_cases hlt : i < xs.length
  · have he := thereB_in (key := key) hlt
    obtain ⟨b1, o1, rfl, -, -, -, hbl, hat1⟩ := Arow.opn HV.out (by omega)
    obtain ⟨d0, -, -, -, -⟩ := hat1 i hlt
    clear hat1
    generalize xs[i].key = x at *
    have HE := Lib.hid he
    have HT := Lib.hid ht
    clear he ht
    go_wp2
    go_quiet (fail)
    go_wp2
    go_ret2
    exact ⟨i, HT.out, ret_place HE.out.symm, blw_drewN (blw_drewN hB q) nq⟩
  · have he := thereB_out (key := key) hlt
    have HE := Lib.hid he
    have HT := Lib.hid ht
    have hge : i ≤ xs.length := ht.1
    clear he ht
    go_wp2
    go_quiet (fail)
    go_wp2
    go_ret2
    exact ⟨i, HT.out, ret_place HE.out.symm, blw_drewN (blw_drewN hB q) nq⟩
end Go.Proofs.Ythbehjilabedoaa
