
import Derived.Test.YtgckofoaiojocaaA1
import Derived.Test.YtgckofoaiojocaaA3
import Derived.Test.YtgckofoaiojocaaShelf
import Derived.Lib.RuneBytes
namespace Go.Proofs.Ytgckofoaiojocaa
open Go.RowKit
set_option linter.unusedVariables false

def utfZ (xs : List Int) : List Int := xs.flatMap Lib.encodeRuneZ
def allMay (xs : List Int) : Bool := xs.all mayB
theorem utfZ_snoc (xs : List Int) (x : Int) : utfZ (xs ++ [x]) = utfZ xs ++ Lib.encodeRuneZ x := by simp [utfZ]
theorem utfZ_len : ∀ xs : List Int, (utfZ xs).length ≤ 4 * xs.length
  | [] => by simp [utfZ]
  | x :: t => by
    have h := Lib.encodeRuneZ_length x
    have ih := utfZ_len t
    simp only [utfZ, List.flatMap_cons, List.length_append, List.length_cons] at ih ⊢
    omega
theorem allMay_take (xs : List Int) (k : Nat) (h : k < xs.length) (hm : allMay (xs.take k) = true) (hx : mayB (xs.getD k 0) = true) : allMay (xs.take (k + 1)) = true := by
  rw [take_snoc xs k h]
  simp only [allMay, List.all_append, List.all_cons, List.all_nil, Bool.and_true, Bool.and_eq_true] at hm ⊢
  exact ⟨hm, hx⟩
theorem allMay_not (xs : List Int) (k : Nat) (h : k < xs.length) (hx : mayB (xs.getD k 0) = false) : allMay xs = false := by
  cases ha : allMay xs with
  | false => rfl
  | true =>
    rw [allMay, List.all_eq_true] at ha
    have := ha (xs.getD k 0) (by simp [List.getD, h])
    rw [this] at hx
    cases hx
theorem may_range (r : Int) (h : mayB r = true) : 0 ≤ r ∧ r ≤ 1114111 := by
  unfold mayB at h
  rw [decide_eq_true_iff] at h
  omega

theorem info5 : (Try.prog.info? 5).map (fun i => (i.zero, i.size, i.bytes)) = some (some (.int .u8 0), 1, 1) := by kernel_rfl
theorem info21 : (Try.prog.info? 21).map (fun i => (i.zero, i.size, i.bytes)) = some (some (.int .i32 0), 1, 4) := by kernel_rfl

def BytesPost (B : Nat) (xs : List Int) (w : World) (e : Ending) (w' : World) : Prop :=
  Below w.heap.size w w' ∧
  ((allMay xs = true ∧ ∃ v n, e = .returned (.tuple #[v, .int .i64 0]) ∧ w'.ownsRow B 5 1 v n ((utfZ xs).map (Value.int .u8))) ∨
   (allMay xs = false ∧ e = .returned (.tuple #[.slice none 0 0, .int .i64 3])))

/-- What a round of Bytes does. -/
theorem bytes_round {w wr w1 : World} {o : Obj} {B k n : Nat} {v v' : Value} {xs : List Int} {x : Int} (hx : xs.getD k 0 = x) (hk : k < xs.length) (hB : w.heap.size = B)
    (h1 : w1.ownsRow B 5 1 v' (n + (Lib.runeCells x).length) ((utfZ (xs.take k)).map (Value.int .u8) ++ Lib.runeCells x)) (hown : wr.ownsRow B 5 1 v n ((utfZ (xs.take k)).map (Value.int .u8)))
    (hg : (wr.alloc o).grownBy w1 v.ownBlock) (hb : Below B w wr) :
    (w1.ownsRow B 5 1 v' (n + (Lib.runeCells x).length) ((utfZ (xs.take (k + 1))).map (Value.int .u8))) ∧ Below B w w1 := by
  subst hB
  refine ⟨?_, ?_⟩
  · rw [take_snoc xs k hk, hx, utfZ_snoc, List.map_append]
    exact h1
  · have hsz := hb.size
    refine (hb.alloc hsz o).grown hg (by simp; omega) ?_
    intro j hj
    exact (hown.lt j hj).1

end Go.Proofs.Ytgckofoaiojocaa
