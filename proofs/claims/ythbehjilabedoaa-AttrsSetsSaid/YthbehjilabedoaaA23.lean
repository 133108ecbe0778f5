
import Derived.Test.YthbehjilabedoaaA22
/- A23: AttrsSame -/
namespace Go.Proofs.Ythbehjilabedoaa
open Go.RowKit
set_option linter.unusedVariables false

set_option maxRecDepth 100000 in
theorem val_in5 (k n f k' n' f' : Int) (s s' : ByteArray) (w : World) :
    (Op.equalIn 10000 26 (val k n f s) (val k' n' f' s')).run Try.prog w = .ok ((k == k') && (n == n') && (f == f') && (s.toList == s'.toList)) w := by
  have hS : Try.prog.underlying 26 = some (.struct (Try.prog.fieldsOf 26)) := by kernel_rfl
  have hp : Try.prog.stoodInHeld 26 = false := by kernel_rfl
  have u1 := Try.underlying5
  have u2 := Try.underlying2
  have u3 := Try.underlying24
  have u4 := Try.underlying9
  have a1 := Try.isAgg5
  have a2 := Try.isAgg2
  have a3 := Try.isAgg24
  have a4 := Try.isAgg9
  have z1 := Try.sizeOf5
  have z2 := Try.sizeOf2
  have z3 := Try.sizeOf24
  have z4 := Try.sizeOf9
  rw [show (10000 : Nat) = 9999 + 1 from rfl, run_equalIn_agg w 9999 26 _ _ hS hp]
  simp only [Program.fieldsOf, Try.underlying26]
  go_simp
  by_cases h1 : k = k' <;> by_cases h2 : n = n' <;> by_cases h3 : f = f' <;> by_cases h4 : s.toList = s'.toList <;> simp [h1, h2, h3, h4]
theorem val_neq (k n f k' n' f' : Int) (s s' : ByteArray) (w : World) :
    (binOp .neq 26 (val k n f s) (val k' n' f' s')).run Try.prog w = .ok (.bool (!((k == k') && (n == n') && (f == f') && (s.toList == s'.toList)))) w := by
  rw [run_neq_struct, val_in5]; rfl
theorem val_neq_self (k n f : Int) (s : ByteArray) (w : World) : (binOp .neq 26 (val k n f s) (val k n f s)).run Try.prog w = .ok (.bool false) w := by
  rw [val_neq]; simp

/-- The worlds of the round's test. -/
def SmC (B b o : Nat) (p y : Att) (W W' : World) : Prop := At B p.k p.n p.f p.s W' ∧ AAt b o y W' ∧ Below W.heap.size W W'
theorem SmC.below {B b o : Nat} {p y : Att} {W w w' : World} (h : SmC B b o p y W w) (hb : Below w.heap.size w w') : SmC B b o p y W w' :=
  ⟨h.1.below hb, h.2.1.below hb (World.block_lt_of_cell? _ _ h.2.1.1), below_add h.2.2 hb h.2.2.size⟩
theorem getV_any (xs : List Att) (key : Int) : ∃ (p : Att) (b : Bool), getV xs key = .tuple #[vv p, .bool b] := ⟨_, _, rfl⟩

set_option maxRecDepth 100000 in
set_option maxHeartbeats 1000000 in
theorem same_early (u1 u2 : Value) (xs ys : List Att) (a : Att) (w : World) (h1 : Arow w u1 xs) (h2 : Arow w u2 ys) (hn : ¬ (¬ great5 xs ∧ ¬ great5 ys ∧ Rise xs ∧ Rise ys)) :
    Calls Try.prog 6 #[u1, u2, av a] w fun e w' => e = .returned (.bool true) ∧ Below w.heap.size w w' := by
  have HK := Lib.hid (fun w => known_any5 w)
  have hB0 := (Below.refl w.heap.size w).alloc (Nat.le_refl _) (.cells (aca a) 28)
  have hu1 := h1.below hB0 (Nat.le_refl _)
  have hu2 := h2.below hB0 (Nat.le_refl _)
  have hg1 := great_any u1 xs _ hu1
  have hg2 := great_any u2 ys _ hu2
  have hr1 := rising_any5 u1 xs _ hu1
  have HR2 := Lib.hid (fun q => rising_any5 u2 ys ((w.alloc (.cells (aca a) 28)).drewN q) (row_drewN hu2 q))
  clear h1 h2 hu1 hu2
  by_cases q1 : great5 xs
  · rw [decide_eq_true q1] at hg1
    have HG1 := Lib.hid hg1
    clear hg1 hg2 hr1 HR2 hn q1
    obtain ⟨x1, x2, x3, x4, x5⟩ := a
    go_enter Try.func6, Try.ntmps6
    go_wp2_with (first
      | (go_at_call 8; with_reducible (refine HG1.out.mono ?_); rintro e w8 ⟨rfl, rfl⟩)
      | (go_at_call 9; refine (HK.out _).mono ?_; rintro e w9 ⟨rfl, hb9⟩))
    go_ret
    exact ⟨rfl, below_add hB0 hb9 hB0.size⟩
  rw [decide_eq_false q1] at hg1
  have HG1 := Lib.hid hg1
  clear hg1
  by_cases q2 : great5 ys
  · rw [decide_eq_true q2] at hg2
    have HG2 := Lib.hid hg2
    clear hg2 hr1 HR2 hn q1 q2
    obtain ⟨x1, x2, x3, x4, x5⟩ := a
    go_enter Try.func6, Try.ntmps6
    go_wp2_with (first
      | (go_at_call 8; with_reducible (refine HG1.out.mono ?_); rintro e w8 ⟨rfl, rfl⟩; clear HG1)
      | (go_at_call 8; with_reducible (refine HG2.out.mono ?_); rintro e w8 ⟨rfl, rfl⟩)
      | (go_at_call 9; refine (HK.out _).mono ?_; rintro e w9 ⟨rfl, hb9⟩))
    go_ret
    exact ⟨rfl, below_add hB0 hb9 hB0.size⟩
  rw [decide_eq_false q2] at hg2
  have HG2 := Lib.hid hg2
  clear hg2
  by_cases q3 : Rise xs
  · rw [decide_eq_true q3] at hr1
    have HR1 := Lib.hid hr1
    have q4 : ¬ Rise ys := fun h => hn ⟨q1, q2, q3, h⟩
    rw [decide_eq_false q4] at HR2
    clear hr1 hn q1 q2 q3 q4
    obtain ⟨x1, x2, x3, x4, x5⟩ := a
    go_enter Try.func6, Try.ntmps6
    go_wp2_with (first
      | (go_at_call 8; with_reducible (refine HG1.out.mono ?_); rintro e w8 ⟨rfl, rfl⟩; clear HG1)
      | (go_at_call 8; with_reducible (refine HG2.out.mono ?_); rintro e w8 ⟨rfl, rfl⟩; clear HG2)
      | (go_at_call 17; with_reducible (refine HR1.out.mono ?_); rintro e w7 ⟨rfl, q7, rfl⟩; clear HR1)
      | (go_at_call 17; with_reducible (refine (HR2.out q7).mono ?_); rintro e w8 ⟨rfl, q8, rfl⟩)
      | (go_at_call 9; refine (HK.out _).mono ?_; rintro e w9 ⟨rfl, hb9⟩))
    go_ret
    have hb8 := blw_drewN hB0 (q7 + q8)
    exact ⟨rfl, below_add hb8 hb9 hb8.size⟩
  · rw [decide_eq_false q3] at hr1
    have HR1 := Lib.hid hr1
    clear hr1 hn q1 q2 q3 HR2
    obtain ⟨x1, x2, x3, x4, x5⟩ := a
    go_enter Try.func6, Try.ntmps6
    go_wp2_with (first
      | (go_at_call 8; with_reducible (refine HG1.out.mono ?_); rintro e w8 ⟨rfl, rfl⟩; clear HG1)
      | (go_at_call 8; with_reducible (refine HG2.out.mono ?_); rintro e w8 ⟨rfl, rfl⟩; clear HG2)
      | (go_at_call 17; with_reducible (refine HR1.out.mono ?_); rintro e w7 ⟨rfl, q7, rfl⟩; clear HR1)
      | (go_at_call 9; refine (HK.out _).mono ?_; rintro e w9 ⟨rfl, hb9⟩))
    go_ret
    have hb8 := blw_drewN hB0 q7
    exact ⟨rfl, below_add hb8 hb9 hb8.size⟩
end Go.Proofs.Ythbehjilabedoaa
