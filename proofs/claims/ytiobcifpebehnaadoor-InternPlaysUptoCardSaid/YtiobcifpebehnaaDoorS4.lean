
import Derived.Test.YtiobcifpebehnaaDoorS2
/- S6: the reference's Find -/
namespace Go.Proofs.YtiobcifpebehnaaDoor
open Go.RowKit
set_option linter.unusedVariables false

theorem KAt.below {B b o : Nat} {k : Key} {w w' : World} (h : KAt b o k w) (hb : Below B w w') (hB : b < B) : KAt b o k w' := by
  obtain ⟨h0, h1, h2, h3, h4, h5⟩ := h
  exact ⟨(hb.cell (p := ⟨b, _, none⟩) hB).trans h0, (hb.cell (p := ⟨b, _, none⟩) hB).trans h1, (hb.cell (p := ⟨b, _, none⟩) hB).trans h2, (hb.cell (p := ⟨b, _, none⟩) hB).trans h3, (hb.cell (p := ⟨b, _, none⟩) hB).trans h4, (hb.cell (p := ⟨b, _, none⟩) hB).trans h5⟩

@[reducible] def fndV (ks : List Key) (id : Int) : Value := .tuple #[kv ((fnd ks id).getD noKey), .bool (fnd ks id).isSome]

theorem fnd_take_none {ks : List Key} {k : Nat} {id : Int} (h : k < ks.length) (hf : fnd (ks.take k) id = none) (hne : ¬ ks[k].id = id) : fnd (ks.take (k + 1)) id = none := by
  rw [ktake_snoc ks k h, fnd_snoc, hf, if_neg hne]; rfl
theorem fnd_take_some {ks : List Key} {k : Nat} {id : Int} (h : k < ks.length) (hf : fnd (ks.take k) id = none) (he : ks[k].id = id) : fnd ks id = some ks[k] := by
  have h1 : fnd (ks.take (k + 1)) id = some ks[k] := by rw [ktake_snoc ks k h, fnd_snoc, hf, if_pos he]; rfl
  have h2 : fnd (ks.take (k + 1) ++ ks.drop (k + 1)) id = some ks[k] := by
    unfold fnd at h1 ⊢
    rw [List.find?_append, h1]
    rfl
  rwa [List.take_append_drop] at h2
theorem fndV_some {ks : List Key} {id : Int} {k : Key} (h : fnd ks id = some k) : fndV ks id = .tuple #[kv k, .bool true] := by unfold fndV; rw [h]; rfl
theorem fndV_none {ks : List Key} {id : Int} (h : fnd ks id = none) : fndV ks id = .tuple #[kv noKey, .bool false] := by unfold fndV; rw [h]; rfl

set_option maxHeartbeats 400000 in
theorem rfind_any (v : Value) (ks : List Key) (id : Int) (w : World) (hv : Krow w v ks) :
    Calls Tryd.prog 59 #[v, .int .i64 id] w fun e w' => e = .returned (fndV ks id) ∧ Below w.heap.size w w' := by
  have hl := hv.len
  obtain ⟨a, cap, rfl⟩ := hv.shape
  by_cases h0 : 0 < ks.length
  · obtain ⟨b, off, rfl, -, -, -, hbl, hat⟩ := hv.opened h0
    clear hv
    have hB := (Below.refl w.heap.size w).alloc (Nat.le_refl _) (.cells (kc noKey).toArray 67)
    have hat2 := Lib.hid (fun j (hj : j < ks.length) => (hat j hj).below hB hbl)
    clear hat
    go_enter Tryd.func59, Tryd.ntmps59
    go_wp2
    go_loop [6] (fun i => ∃ k : Nat, k ≤ ks.length ∧ i = .int .i64 k ∧ fnd (ks.take k) id = none) (fun i => ks.length - (intOf i).toNat)
    case atStart => exact ⟨0, Nat.zero_le _, rfl, rfl⟩
    case round =>
      obtain ⟨k, hk, rfl, hf⟩ := hrel
      have HF := Lib.hid hf
      clear hf
      by_cases hlt : k < ks.length
      · obtain ⟨c0, c1, c2, c3, c4, c5⟩ := hat2.out k hlt
        by_cases he : ks[k].id = id
        · have HS := Lib.hid (fnd_take_some hlt HF.out he)
          have e1 : (ks[k].id == id) = true := by simpa using he
          clear he
          go_wp2
          exact bodyPost_ret (v := .tuple #[kv ks[k], .bool true]) (by simp [results, Tryd.results59, go_sem]) rfl ⟨by rw [fndV_some HS.out], (Below.refl _ _).alloc (Nat.le_refl _) _⟩
        · have HN := Lib.hid (fnd_take_none hlt HF.out he)
          have e1 : (ks[k].id == id) = false := by simpa using he
          clear he
          go_wp2
          go_round
          case rel => exact ⟨k + 1, by omega, by go_num, HN.out⟩
          case measure => simp [intOf]; omega
      · have hk2 : k = ks.length := by omega
        have HN : fnd ks id = none := by have := HF.out; rwa [hk2, List.take_of_length_le (Nat.le_refl _)] at this
        have HN := Lib.hid HN
        clear hk2
        go_wp2
        exact bodyPost_ret (v := .tuple #[kv noKey, .bool false]) (by simp [results, Tryd.results59, go_sem]) rfl ⟨by rw [fndV_none HN.out], (Below.refl _ _).alloc (Nat.le_refl _) _⟩
  · obtain rfl : ks = [] := List.eq_nil_of_length_eq_zero (by omega)
    clear hv hl h0
    go_enter Tryd.func59, Tryd.ntmps59
    go_wp2
    refine wp_loop_rounds 1 ?_
    rw [rounds_succ]
    go_wp2
    exact bodyPost_ret (v := .tuple #[kv noKey, .bool false]) (by simp [results, Tryd.results59, go_sem]) rfl ⟨by rw [fndV_none (fnd_nil id)], (Below.refl _ _).alloc (Nat.le_refl _) _⟩
end Go.Proofs.YtiobcifpebehnaaDoor
