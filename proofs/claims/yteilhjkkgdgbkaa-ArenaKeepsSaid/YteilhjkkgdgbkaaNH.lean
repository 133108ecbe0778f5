
import Derived.Test.YteilhjkkgdgbkaaNE
import Derived.RangeFuncNested
import Derived.RangeFuncBound
import Derived.RangeFuncCalls
import Derived.RangeFuncLeaves
import Derived.Shelf.Abstract
import Derived.Shelf.RegionOpen
import Derived.WalkKit
import Derived.OwnWalkIn
import Derived.TacticsInMore
import Derived.LoopNIn
import Derived.LoopIn
/- NH: an arena that is not there; a zero one; a range over a function that tells nothing -/
namespace Go
open Go.RowKit
/-- 'for range seq' where seq tells nothing. -/
theorem wpIn_rangeFunc_empty {F : Fence} {n : Nat} {P : Program} {g : Operand} {p q : Tmp} {body : Code} {Q : Exit → Act → World → Prop} {a : Act} {w : World}
    (hro : F.round = none) (h1 : 1 ≤ n) {gf : Nat} {lb : Array Value} (hg : a.eval g = .func (.func gf) #[] lb) (hFg : F.fn gf) (eg : ∀ args w, (callFunc gf args).run P w = .ok (.enter gf args) w)
    (hseq : ∀ (l : Nat) (W : World), Below w.heap.size w W → CallsIn F (n - 1) P gf (#[.func (.yield l) #[] #[]] ++ lb) W fun e W' => (∃ v, e = .returned v) ∧ W' = W)
    (hdone : ∀ (D : Nat) (W : World), w.heap.size ≤ D → Below w.heap.size w W → W.heap[D]? = some (.deferred (some [])) → Q .normal { a with defers := { target := .collected D, args := #[] } :: a.defers } W) :
    (Code.rangeFunc g #[p, q] Code.skip body).wpIn F n P Q a w := by
  refine wpIn_rangeFunc_ownF (α := Int) (encs := fun x => #[Value.int .i64 x, Value.int .i64 x]) (Kp := Below w.heap.size) (S := fun xs => xs = []) (Sp := fun _ => False) (N := 0) (w0 := w) hro h1 hg hFg eg ?_ belowK_t (belowK_b (Nat.le_refl _)) (Below.refl _ _) (fun _ => rfl)
    (fun _ W => Below w.heap.size w W) (fun _ _ _ => False) (ownFrom_below (Nat.le_refl _) (Nat.le_refl _)) (fun _ _ _ _ _ hs _ _ => hs) (Below.refl _ _)
    (fun x => { tmps := ((#[p, q] : Array Tmp).zip #[Value.int .i64 x, Value.int .i64 x]).foldl (fun t (p, v) => t.setIfInBounds p v) a.tmps, defers := [] }) ?_ ?_ ?_ ?_
  · intro l J Jx W hW hJ hJx hY h0
    refine (hseq l W hW).mono fun e W' ⟨hv, hw⟩ => ?_
    subst hw
    exact ⟨hv, .inl ⟨[], rfl, h0⟩⟩
  · intro l x W K hK
    exact wpIn_skip hK
  · intro l pre x W _ h
    exact absurd h (Nat.not_lt_zero _)
  · rintro D xs W hD rfl hB hK
    exact hdone D W hD hB hK
  · rintro D c pre W _ h
    exact h.elim
end Go
namespace Go.Proofs.Yteilhjkkgdgbkaa
open Go.RowKit Go.Shelf
set_option linter.unusedVariables false
attribute [local go_sem] Oper.semAt_some

/-- No arena: nil, or a zero one. -/
def ZT (w : World) (p : Option Addr) : Prop := p = none ∨ ∃ b, p = some ⟨b, 0, none⟩ ∧ w.cell? ⟨b, 0, none⟩ = some (.pointer none)
theorem ZT.below {w w' : World} {p : Option Addr} (h : ZT w p) (hb : Below w.heap.size w w') : ZT w' p := by
  rcases h with h | ⟨b, rfl, hc⟩
  · exact .inl h
  · exact .inr ⟨b, rfl, (hb.cell (p := ⟨b, 0, none⟩) (World.block_lt_of_cell? _ _ hc)).trans hc⟩
theorem iszero_no {p : Option Addr} (w : World) (h : ZT w p) : Calls Try.prog 30 #[.pointer p] w fun e w' => e = .returned (.bool true) ∧ w' = w := by
  rcases h with rfl | ⟨b, rfl, c0⟩
  · go_enter Try.func30, Try.ntmps30
    go_wp2
    go_ret
    exact ⟨rfl, rfl⟩
  · go_enter Try.func30, Try.ntmps30
    go_wp2
    go_ret
    exact ⟨rfl, rfl⟩
theorem cap_no {p : Option Addr} (w : World) (h : ZT w p) : Calls Try.prog 18 #[.pointer p] w fun e w' => e = .returned (.int .i64 0) ∧ w' = w := by
  have HZ := Lib.hid (iszero_no w h)
  clear h
  go_enter Try.func18, Try.ntmps18
  go_wp2_with (go_at_call 30; refine HZ.out.mono ?_; rintro e w1 ⟨rfl, rfl⟩)
  go_ret
  exact ⟨rfl, rfl⟩
theorem len_no {p : Option Addr} (w : World) (h : ZT w p) : Calls Try.prog 16 #[.pointer p] w fun e w' => e = .returned (.int .i64 0) ∧ w' = w := by
  have HZ := Lib.hid (iszero_no w h)
  clear h
  go_enter Try.func16, Try.ntmps16
  go_wp2_with (go_at_call 30; refine HZ.out.mono ?_; rintro e w1 ⟨rfl, rfl⟩)
  go_ret
  exact ⟨rfl, rfl⟩
theorem find_nil (i : Int) (w : World) : Calls Try.prog 29 #[.pointer none, .int .i64 i] w fun e w' => e = .returned (.tuple #[.pointer none, .int .i64 1]) ∧ w' = w := by
  go_enter Try.func29, Try.ntmps29
  go_wp2
  exact bodyPost_ret (by simp [results, Try.results29, go_sem]) rfl ⟨rfl, rfl⟩
theorem find_zero {b : Nat} (i : Int) (w : World) (h : w.cell? ⟨b, 0, none⟩ = some (.pointer none)) : Calls Try.prog 29 #[.pointer (some ⟨b, 0, none⟩), .int .i64 i] w fun e w' => e = .returned (.tuple #[.pointer none, .int .i64 5]) ∧ w' = w := by
  have HP := Lib.hid (cap_no w (.inr ⟨b, rfl, h⟩))
  by_cases h0 : i < 0
  · have g0 : decide (i < 0) = true := by rw [decide_eq_true_iff]; exact h0
    go_enter Try.func29, Try.ntmps29
    go_wp2_with (go_at_call 18; refine HP.out.mono ?_; rintro e w1 ⟨rfl, rfl⟩)
    exact bodyPost_ret (by simp [results, Try.results29, go_sem]) rfl ⟨rfl, rfl⟩
  · have g0 : decide (i < 0) = false := by rw [decide_eq_false_iff_not]; exact h0
    have g1 : decide (0 ≤ i) = true := by rw [decide_eq_true_iff]; omega
    go_enter Try.func29, Try.ntmps29
    go_wp2_with (go_at_call 18; refine HP.out.mono ?_; rintro e w1 ⟨rfl, rfl⟩)
    exact bodyPost_ret (by simp [results, Try.results29, go_sem]) rfl ⟨rfl, rfl⟩
theorem at_nil (i : Int) (w : World) : Calls Try.prog 15 #[.pointer none, .int .i64 i] w fun e w' => e = .returned (.tuple #[.int .i64 0, .int .i64 1]) ∧ w' = w := by
  have HF := Lib.hid (find_nil i w)
  go_enter Try.func15, Try.ntmps15
  go_wp2_with (go_at_call 29; refine HF.out.mono ?_; rintro e w1 ⟨rfl, rfl⟩)
  exact bodyPost_ret (by simp [results, Try.results15, go_sem]) rfl ⟨rfl, rfl⟩
theorem free_nil (i : Int) (w : World) : Calls Try.prog 12 #[.pointer none, .int .i64 i] w fun e w' => e = .returned (.int .i64 1) ∧ w' = w := by
  have HF := Lib.hid (find_nil i w)
  go_enter Try.func12, Try.ntmps12
  go_wp2_with (go_at_call 29; refine HF.out.mono ?_; rintro e w1 ⟨rfl, rfl⟩)
  go_ret
  exact ⟨rfl, rfl⟩
theorem free_zero {b : Nat} (i : Int) (w : World) (h : w.cell? ⟨b, 0, none⟩ = some (.pointer none)) : Calls Try.prog 12 #[.pointer (some ⟨b, 0, none⟩), .int .i64 i] w fun e w' => e = .returned (.int .i64 5) ∧ w' = w := by
  have HF := Lib.hid (find_zero i w h)
  clear h
  go_enter Try.func12, Try.ntmps12
  go_wp2_with (go_at_call 29; refine HF.out.mono ?_; rintro e w1 ⟨rfl, rfl⟩)
  go_ret
  exact ⟨rfl, rfl⟩
theorem put_nil (i x : Int) (w : World) : Calls Try.prog 14 #[.pointer none, .int .i64 i, .int .i64 x] w fun e w' => e = .returned (.int .i64 1) ∧ w' = w := by
  have HF := Lib.hid (find_nil i w)
  go_enter Try.func14, Try.ntmps14
  go_wp2_with (go_at_call 29; refine HF.out.mono ?_; rintro e w1 ⟨rfl, rfl⟩)
  go_ret
  exact ⟨rfl, rfl⟩
theorem take_nil (x : Int) (w : World) : Calls Try.prog 10 #[.pointer none, .int .i64 x] w fun e w' => e = .returned (.int .i64 (-1)) ∧ w' = w := by
  go_enter Try.func10, Try.ntmps10
  go_wp2
  go_ret
  exact ⟨rfl, rfl⟩
set_option maxHeartbeats 1000000 in
/-- The first thing of a zero arena. -/
theorem take_zero {b : Nat} (x : Int) (w : World) (h : w.heap[b]? = some (.cells #[.pointer none] 49 (0, 0))) :
    Calls Try.prog 10 #[.pointer (some ⟨b, 0, none⟩), .int .i64 x] w fun e w' => e = .returned (.int .i64 0) ∧ (∃ S, Ar_6 b S b (newA.take x) 1 w') ∧ Off (fun k => k = b) w w' := by
  have c0 : w.cell? ⟨b, 0, none⟩ = some (.pointer none) := by rw [cell_of_row w b 0 _ _ _ h]; rfl
  have f0 : w.frozen? ⟨b, 0, none⟩ = false := by simp [World.frozen?, h]
  have hb := lt_of_heap h
  have hbA := (Below.refl w.heap.size w).alloc (Nat.le_refl _) (.cells #[.slice none 0 0, .slice none 0 0] 67)
  have h1 : (w.alloc (.cells #[.slice none 0 0, .slice none 0 0] 67)).heap[b]? = some (.cells #[.pointer none] 49 (0, 0)) := by rw [Below.heap_alloc _ _ _ hb]; exact h
  have c1 : (w.alloc (.cells #[.slice none 0 0, .slice none 0 0] 67)).cell? ⟨b, 0, none⟩ = some (.pointer none) := by rw [cell_of_row _ b 0 _ _ _ h1]; rfl
  have f1 : (w.alloc (.cells #[.slice none 0 0, .slice none 0 0] 67)).frozen? ⟨b, 0, none⟩ = false := by simp [World.frozen?, h1]
  have h2 : (w.alloc (.cells #[.slice none 0 0, .slice none 0 0] 67)).heap[w.heap.size]? = some (.cells #[.slice none 0 0, .slice none 0 0] 67) := heap_alloc_new w _
  have h3 := heap_set (g := b) (o := 0) (.pointer (some ⟨w.heap.size, 0, none⟩)) h1
  have hG := grown_set (w := w.alloc (.cells #[.slice none 0 0, .slice none 0 0] 67)) (g := b) (o := 0) (.pointer (some ⟨w.heap.size, 0, none⟩))
  have h4 := far hG h2 (fun g hg => by cases hg; exact ⟨_, h1, by simp⟩)
  have hM : ArM K_6 b (fun k => k = b ∨ w.heap.size ≤ k) b w.heap.size (.slice none 0 0) (.slice none 0 0) (newA : ArS Int).ps (newA : ArS Int).free ((w.alloc (.cells #[.slice none 0 0, .slice none 0 0] 67)).setCell ⟨b, 0, none⟩ (.pointer (some ⟨w.heap.size, 0, none⟩))) :=
    ⟨h3, h4, own_nil _ _ _ _, own_nil _ _ _ _, .inl rfl, .inr (Nat.le_refl _), fun g hg => by simp [Value.ownBlock] at hg, fun g hg => by simp [Value.ownBlock] at hg, fun k hk => by rcases hk with hk | hk <;> omega, by have := hG.size; simp at this ⊢; omega⟩
  have O0 := Lib.hid ((Off.of_below (S := fun k => k = b ∨ w.heap.size ≤ k) hbA).seq (Off.of_grown hG (fun g hg => by cases hg; exact .inl rfl)))
  obtain ⟨d0, -, -⟩ := hM.cells
  have HN := Lib.hid (next_any_6 newA x _ hM (by simp [newA]) (by simp [newA]) ok_newA)
  have HB := Lib.hid hb
  clear h h1 h2 h3 h4 hG hbA hM hb
  have e0 : (newA : ArS Int).fresh = 0 := rfl
  rw [e0] at HN
  go_enter Try.func10, Try.ntmps10
  go_wp2_with (go_at_call 28; refine HN.out.mono ?_; rintro e w1 ⟨rfl, hO, sv1, fv1, ps1, hM, hlt, hle, hno, hps⟩; refine Hid.out ?_)
  obtain ⟨g, cap, rfl, -, hcap⟩ := hM.form (by omega)
  obtain ⟨d0, d1, -⟩ := hM.cells
  obtain ⟨p0, p1, p2⟩ := hM.place hno rfl
  have p1 : w1.cell? ⟨g, 0 * 2 + 1, none⟩ = some (.int .i64 0) := p1
  have f0 := p2 0
  have f1 := p2 1
  rw [show 0 * 2 = 0 from rfl] at p0 p1
  have k1 : (0 : Int) < (ps1.length : Int) := by omega
  have M2 := Lib.hid (hM.put2 hlt (y := some x) rfl)
  have O2 := Lib.hid ((O0.out.seq hO).seq (Off.of_grown (S := fun k => k = b ∨ w.heap.size ≤ k) (grown_two (w := w1) (g := g) (o := 0 * 2) (p := 0 * 2 + 1) (.bool true) (.int .i64 x)) (fun g' hg' => by
    cases hg'
    rcases hM.sSv _ rfl with e | e
    · exact e
    · exact .inr (Nat.le_trans O0.out.size e))))
  have HP := Lib.hid hps
  clear hM hO hps hno p2 HN
  refine Lib.hid ?_
  go_wp2
  go_ret
  exact ⟨rfl, ⟨_, ⟨⟨_, _, _, by rw [← HP.out]; exact M2.out⟩, ok_take ok_newA x, le_take (le_newA 0) x⟩⟩, Off.cut (S := fun k => k = b) O2.out⟩
theorem all_any (p : Option Addr) (w : World) : Calls Try.prog 19 #[.pointer p] w fun e w' => e = .returned (.func (.func 31) #[] #[.pointer (some ⟨w.heap.size, 0, none⟩)]) ∧ w' = w.alloc (.cells #[.pointer p] 23) := by
  go_enter Try.func19, Try.ntmps19
  go_wp2
  go_ret
  exact ⟨rfl, rfl⟩
set_option maxRecDepth 100000 in
theorem all1_no {p : Option Addr} {B : Nat} (n l : Nat) (w : World) (h : ZT w p) (hB : w.cell? ⟨B, 0, none⟩ = some (.pointer p)) :
    CallsIn Fence.wide n Try.prog 31 #[.func (.yield l) #[] #[], .pointer (some ⟨B, 0, none⟩)] w fun e w' => (∃ v, e = .returned v) ∧ w' = w := by
  have HZ := Lib.hid (cap_no w h)
  clear h
  refine callsIn_of_wp Try.func31 rfl trivial ?_ rfl
  simp only [Try.ntmps31, List.size_toArray, List.length_cons, List.length_nil, Nat.reduceAdd, Nat.reduceSub, Array.replicate_succ, Array.replicate_zero, List.push_toArray, List.append_toArray, List.nil_append, List.cons_append]
  gi_wp2
  refine wpIn_loop_once ?_
  gi_wp2_with (refine ⟨trivial, fun h => (by cases h), ?_⟩; gi_at_call 18; refine (callsIn_wide.2 HZ.out).mono ?_; rintro e w1 ⟨rfl, rfl⟩)
  go_end0
  exact ⟨⟨_, rfl⟩, rfl⟩
set_option maxRecDepth 100000 in
theorem under_seq : ∃ a b c, Try.prog.underlying 44 = some (.func a b c) := ⟨_, _, _, rfl⟩
theorem equalIn_func (d : Nat) (P : Program) (t : TypeId) (f : Fn) (x y : Array Value) (w : World) {a b : Array TypeId} {c : Bool} (h : P.underlying t = some (.func a b c)) : (Op.equalIn (d + 1) t (.func f x y) .nilFunc).run P w = .ok false w := by
  simp [Op.equalIn, run_underlying h]
theorem equal_func (P : Program) (t : TypeId) (f : Fn) (x y : Array Value) (w : World) {a b : Array TypeId} {c : Bool} (h : P.underlying t = some (.func a b c)) : (Op.equal t (.func f x y) .nilFunc).run P w = .ok false w := equalIn_func 9999 P t f x y w h
theorem eql_func (P : Program) (t : TypeId) (f : Fn) (x y : Array Value) (w : World) {a b : Array TypeId} {c : Bool} (h : P.underlying t = some (.func a b c)) : (binOp .eql t (.func f x y) .nilFunc).run P w = .ok (.bool false) w := by
  have e : binOp .eql t (.func f x y) .nilFunc = (do pure (.bool (← Op.equal t (.func f x y) .nilFunc))) := rfl
  rw [e]
  simp [equal_func P t f x y w h]
theorem all_there (b : Nat) (W : World) : (binOp .eql 44 (.func (.func 31) #[] #[.pointer (some ⟨b, 0, none⟩)]) .nilFunc).run Try.prog W = .ok (.bool false) W := by
  obtain ⟨x, y, z, h⟩ := under_seq
  exact eql_func _ _ _ _ _ _ h
end Go.Proofs.Yteilhjkkgdgbkaa
