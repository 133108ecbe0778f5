
import Derived.Test.YtkejebjppnhidaaC9
/- C10: the reference's Find -/
namespace Go.Proofs.Ytkejebjppnhidaa
open Go.RowKit
set_option linter.unusedVariables false

def getC (xs : List Chg) (key : Int) : Option Chg := xs.find? fun c => c.key == key
theorem getC_step {xs : List Chg} {key : Int} {k : Nat} (h : k < xs.length) (hf : getC (xs.take k) key = none) (hne : ¬ xs[k].key = key) : getC (xs.take (k + 1)) key = none := by
  unfold getC at *
  rw [tsnoc h, List.find?_append, hf]; simp [hne]
theorem getC_found {xs : List Chg} {key : Int} {k : Nat} (h : k < xs.length) (hf : getC (xs.take k) key = none) (he : xs[k].key = key) : getC xs key = some xs[k] := by
  unfold getC at *
  conv => lhs; rw [← List.take_append_drop (k + 1) xs, tsnoc h]
  rw [List.find?_append, List.find?_append, hf]; simp [he]
theorem getC_end {xs : List Chg} {key : Int} (hf : getC (xs.take xs.length) key = none) : getC xs key = none := by rwa [List.take_of_length_le (Nat.le_refl _)] at hf
@[reducible] def getCV (xs : List Chg) (key : Int) : Value := .tuple #[cv ((getC xs key).getD noChg), .bool (getC xs key).isSome]
theorem getCV_some {xs : List Chg} {key : Int} {a : Chg} (h : getC xs key = some a) : getCV xs key = .tuple #[cv a, .bool true] := by unfold getCV; rw [h]; rfl
theorem getCV_none {xs : List Chg} {key : Int} (h : getC xs key = none) : getCV xs key = .tuple #[cv noChg, .bool false] := by unfold getCV; rw [h]; rfl

set_option maxRecDepth 100000 in
set_option maxHeartbeats 400000 in
theorem rfind6_any (v : Value) (xs : List Chg) (key : Int) (w : World) (hv : Crow w v xs) :
    Calls Try.prog 28 #[v, .int .i64 key] w fun e w' => e = .returned (getCV xs key) ∧ Below w.heap.size w w' := by
  have hl := hv.len
  obtain ⟨a, cap, rfl⟩ := hv.shape
  by_cases h0 : 0 < xs.length
  · obtain ⟨b, off, rfl, -, -, -, hbl, hat⟩ := Crow.opn hv h0
    clear hv
    have hB := (Below.refl w.heap.size w).alloc (Nat.le_refl _) (.cells (cca noChg) 52)
    have hat2 := Lib.hid (fun j (hj : j < xs.length) => (hat j hj).below hB hbl)
    clear hat
    go_enter Try.func28, Try.ntmps28
    go_wp2
    go_loop [6] (fun i => ∃ k : Nat, k ≤ xs.length ∧ i = .int .i64 k ∧ Hid (getC (xs.take k) key = none)) (fun i => xs.length - (intOf i).toNat)
    case atStart => exact ⟨0, Nat.zero_le _, rfl, Lib.hid rfl⟩
    case round =>
      obtain ⟨k, hk, rfl, HF⟩ := hrel
      by_cases hlt : k < xs.length
      · obtain ⟨c0, c1, c2, c3, c4, c5⟩ := hat2.out k hlt
        have hS := fun h => getC_found hlt HF.out h
        have hN := fun h => getC_step hlt HF.out h
        generalize xs[k] = x at *
        obtain ⟨x1, x0, x2, x3, x4, x5⟩ := x
        simp only at c0 c1 c2 c3 c4 c5 hS hN
        by_cases he : x1 = key
        · have HS := Lib.hid (hS he)
          have e1 : (x1 == key) = true := by simpa using he
          clear he hS hN
          go_wp2
          exact bodyPost_ret (v := .tuple #[cv ⟨x1, x0, x2, x3, x4, x5⟩, .bool true]) (by simp [results, Try.results28, go_sem]) rfl ⟨by rw [getCV_some HS.out], (Below.refl _ _).alloc (Nat.le_refl _) _⟩
        · have HN := Lib.hid (hN he)
          have e1 : (x1 == key) = false := by simpa using he
          clear he hS hN
          go_wp2
          go_round
          case rel => exact ⟨k + 1, by omega, by go_num, HN⟩
          case measure => simp [intOf]; omega
      · obtain rfl : k = xs.length := by omega
        have HN := Lib.hid (getC_end HF.out)
        go_wp2
        exact bodyPost_ret (v := .tuple #[cv noChg, .bool false]) (by simp [results, Try.results28, go_sem]) rfl ⟨by rw [getCV_none HN.out], (Below.refl _ _).alloc (Nat.le_refl _) _⟩
  · obtain rfl : xs = [] := List.eq_nil_of_length_eq_zero (by omega)
    clear hv hl h0
    have hB := (Below.refl w.heap.size w).alloc (Nat.le_refl _) (.cells (cca noChg) 52)
    go_enter Try.func28, Try.ntmps28
    go_wp2
    refine wp_loop_rounds 1 ?_
    rw [rounds_succ]
    go_wp2
    exact bodyPost_ret (v := .tuple #[cv noChg, .bool false]) (by simp [results, Try.results28, go_sem]) rfl ⟨by rw [getCV_none rfl], (Below.refl _ _).alloc (Nat.le_refl _) _⟩
end Go.Proofs.Ytkejebjppnhidaa
