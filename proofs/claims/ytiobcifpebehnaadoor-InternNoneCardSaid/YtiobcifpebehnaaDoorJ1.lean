
import Derived.Test.YtiobcifpebehnaaDoorID
import Derived.Test.YtiobcifpebehnaaDoorI15
import Derived.RangeFuncNested
import Derived.RangeFuncBound
import Derived.RangeFuncCalls
import Derived.RangeFuncLeaves
import Derived.Shelf.Abstract
import Derived.Shelf.RegionOpen
import Derived.WalkKit
import Derived.OwnWalkIn
import Derived.TacticsInMore
import Derived.LoopNIn
import Derived.LoopIn
/- J1: a table that is none, or was not made; a range over a function that tells nothing -/
namespace Go
open Go.RowKit
/-- 'for range seq' where seq tells nothing. -/
theorem wpIn_rangeFunc_empty {F : Fence} {n : Nat} {P : Program} {g : Operand} {p : Tmp} {body : Code} {Q : Exit → Act → World → Prop} {a : Act} {w : World}
    (hro : F.round = none) (h1 : 1 ≤ n) {gf : Nat} {lb : Array Value} (hg : a.eval g = .func (.func gf) #[] lb) (hFg : F.fn gf) (eg : ∀ args w, (callFunc gf args).run P w = .ok (.enter gf args) w)
    (hseq : ∀ (l : Nat) (W : World), Below w.heap.size w W → CallsIn F (n - 1) P gf (#[.func (.yield l) #[] #[]] ++ lb) W fun e W' => (∃ v, e = .returned v) ∧ W' = W)
    (hdone : ∀ (D : Nat) (W : World), w.heap.size ≤ D → Below w.heap.size w W → W.heap[D]? = some (.deferred (some [])) → Q .normal { a with defers := { target := .collected D, args := #[] } :: a.defers } W) :
    (Code.rangeFunc g #[p] Code.skip body).wpIn F n P Q a w := by
  refine wpIn_rangeFunc_ownF (α := Int) (encs := fun x => #[Value.int .i64 x]) (Kp := Below w.heap.size) (S := fun xs => xs = []) (Sp := fun _ => False) (N := 0) (w0 := w) hro h1 hg hFg eg ?_ belowK_t (belowK_b (Nat.le_refl _)) (Below.refl _ _) (fun _ => rfl)
    (fun _ W => Below w.heap.size w W) (fun _ _ _ => False) (ownFrom_below (Nat.le_refl _) (Nat.le_refl _)) (fun _ _ _ _ _ hs _ _ => hs) (Below.refl _ _)
    (fun x => { tmps := ((#[p] : Array Tmp).zip #[Value.int .i64 x]).foldl (fun t (p, v) => t.setIfInBounds p v) a.tmps, defers := [] }) ?_ ?_ ?_ ?_
  · intro l J Jx W hW hJ hJx hY h0
    refine (hseq l W hW).mono fun e W' ⟨hv, hw⟩ => ?_
    subst hw
    exact ⟨hv, .inl ⟨[], rfl, h0⟩⟩
  · intro l x W K hK
    exact wpIn_skip hK
  · intro l pre x W _ h
    exact absurd h (Nat.not_lt_zero _)
  · rintro D xs W hD rfl hB hK
    exact hdone D W hD hB hK
  · rintro D c pre W _ h
    exact h.elim
end Go
namespace Go.Proofs.YtiobcifpebehnaaDoor
open Go.RowKit Go.Shelf
set_option linter.unusedVariables false
attribute [local go_sem] Oper.semAt_some

/-- No table: nil, or one that was not made. -/
def ZT (w : World) (p : Option Addr) : Prop := p = none ∨ ∃ b, p = some ⟨b, 0, none⟩ ∧ w.cell? ⟨b, 0, none⟩ = some (.pointer none)
theorem iszero_no {p : Option Addr} (w : World) (h : ZT w p) : Calls Tryd.prog 30 #[.pointer p] w fun e w' => e = .returned (.bool true) ∧ w' = w := by
  rcases h with rfl | ⟨b, rfl, c0⟩
  · go_enter Tryd.func30, Tryd.ntmps30
    go_wp2
    go_ret
    exact ⟨rfl, rfl⟩
  · go_enter Tryd.func30, Tryd.ntmps30
    go_wp2
    go_ret
    exact ⟨rfl, rfl⟩
theorem find_no {p : Option Addr} (id : Int) (w : World) (h : ZT w p) : Calls Tryd.prog 36 #[.pointer p, .int .i64 id] w fun e w' => e = .returned (.tuple #[.pointer none, .int .i64 1]) ∧ w' = w := by
  have HZ := Lib.hid (iszero_no w h)
  clear h
  go_enter Tryd.func36, Tryd.ntmps36
  go_wp2_with (go_at_call 30; refine HZ.out.mono ?_; rintro e w1 ⟨rfl, rfl⟩)
  exact bodyPost_ret (by simp [results, Tryd.results36, go_sem]) rfl ⟨rfl, rfl⟩
theorem add_no {p : Option Addr} (v : Value) (w : World) (h : ZT w p) : Calls Tryd.prog 14 #[.pointer p, v] w fun e w' => e = .returned (.tuple #[.int .i64 0, .int .i64 1]) ∧ w' = w := by
  have HZ := Lib.hid (iszero_no w h)
  clear h
  go_enter Tryd.func14, Tryd.ntmps14
  go_wp2_with (go_at_call 30; refine HZ.out.mono ?_; rintro e w1 ⟨rfl, rfl⟩)
  exact bodyPost_ret (by simp [results, Tryd.results14, go_sem]) rfl ⟨rfl, rfl⟩
theorem hold_no {p : Option Addr} (id : Int) (w : World) (h : ZT w p) : Calls Tryd.prog 18 #[.pointer p, .int .i64 id] w fun e w' => e = .returned (.int .i64 1) ∧ w' = w := by
  have HZ := Lib.hid (find_no id w h)
  clear h
  go_enter Tryd.func18, Tryd.ntmps18
  go_wp2_with (go_at_call 36; refine HZ.out.mono ?_; rintro e w1 ⟨rfl, rfl⟩)
  go_ret
  exact ⟨rfl, rfl⟩
theorem free_no {p : Option Addr} (id : Int) (w : World) (h : ZT w p) : Calls Tryd.prog 16 #[.pointer p, .int .i64 id] w fun e w' => e = .returned (.int .i64 1) ∧ w' = w := by
  have HZ := Lib.hid (find_no id w h)
  clear h
  go_enter Tryd.func16, Tryd.ntmps16
  go_wp2_with (go_at_call 36; refine HZ.out.mono ?_; rintro e w1 ⟨rfl, rfl⟩)
  go_ret
  exact ⟨rfl, rfl⟩
theorem held_no {p : Option Addr} (id : Int) (w : World) (h : ZT w p) : Calls Tryd.prog 23 #[.pointer p, .int .i64 id] w fun e w' => e = .returned (.int .i64 0) ∧ w' = w := by
  have HZ := Lib.hid (find_no id w h)
  clear h
  go_enter Tryd.func23, Tryd.ntmps23
  go_wp2_with (go_at_call 36; refine HZ.out.mono ?_; rintro e w1 ⟨rfl, rfl⟩)
  go_ret
  exact ⟨rfl, rfl⟩
theorem set_no {p : Option Addr} (id : Int) (w : World) (h : ZT w p) : Calls Tryd.prog 21 #[.pointer p, .int .i64 id] w fun e w' => e = .returned (.tuple #[.slice none 0 0, .int .i64 1]) ∧ w' = w := by
  have HZ := Lib.hid (find_no id w h)
  clear h
  go_enter Tryd.func21, Tryd.ntmps21
  go_wp2_with (go_at_call 36; refine HZ.out.mono ?_; rintro e w1 ⟨rfl, rfl⟩)
  exact bodyPost_ret (by simp [results, Tryd.results21, go_sem]) rfl ⟨rfl, rfl⟩
theorem len_no {p : Option Addr} (w : World) (h : ZT w p) : Calls Tryd.prog 24 #[.pointer p] w fun e w' => e = .returned (.int .i64 0) ∧ w' = w := by
  have HZ := Lib.hid (iszero_no w h)
  clear h
  go_enter Tryd.func24, Tryd.ntmps24
  go_wp2_with (go_at_call 30; refine HZ.out.mono ?_; rintro e w1 ⟨rfl, rfl⟩)
  go_ret
  exact ⟨rfl, rfl⟩
theorem all_any (p : Option Addr) (w : World) : Calls Tryd.prog 22 #[.pointer p] w fun e w' => e = .returned (.func (.func 38) #[] #[.pointer (some ⟨w.heap.size, 0, none⟩)]) ∧ w' = w.alloc (.cells #[.pointer p] 30) := by
  go_enter Tryd.func22, Tryd.ntmps22
  go_wp2
  go_ret
  exact ⟨rfl, rfl⟩
set_option maxRecDepth 100000 in
theorem all1_no {p : Option Addr} {B : Nat} (n l : Nat) (w : World) (h : ZT w p) (hB : w.cell? ⟨B, 0, none⟩ = some (.pointer p)) :
    CallsIn Fence.wide n Tryd.prog 38 #[.func (.yield l) #[] #[], .pointer (some ⟨B, 0, none⟩)] w fun e w' => (∃ v, e = .returned v) ∧ w' = w := by
  have HZ := Lib.hid (iszero_no w h)
  clear h
  refine callsIn_of_wp Tryd.func38 rfl trivial ?_ rfl
  simp only [Tryd.ntmps38, List.size_toArray, List.length_cons, List.length_nil, Nat.reduceAdd, Nat.reduceSub, Array.replicate_succ, Array.replicate_zero, List.push_toArray, List.append_toArray, List.nil_append, List.cons_append]
  gi_wp2
  refine wpIn_loop_once ?_
  gi_wp2_with (refine ⟨trivial, fun h => (by cases h), ?_⟩; gi_at_call 30; refine (callsIn_wide.2 HZ.out).mono ?_; rintro e w1 ⟨rfl, rfl⟩)
  go_end0
  exact ⟨⟨_, rfl⟩, rfl⟩
end Go.Proofs.YtiobcifpebehnaaDoor
