
import Derived.Test.YtgckofoaiojocaaA6
import Derived.Test.YtgckofoaiojocaaM1
namespace Go.Proofs.Ytgckofoaiojocaa
open Go.RowKit
set_option linter.unusedVariables false

/-- The bytes of a row of numbers. -/
def bl (bs : List Int) : List UInt8 := (strOfNums bs).data.toList
theorem bl_len (bs : List Int) : (bl bs).length = bs.length := by simp [bl, strOfNums]

def ReadPost (B : Nat) (bs : List Int) (w : World) (e : Ending) (w' : World) : Prop :=
  Below w.heap.size w w' ∧
  ((∃ rs v n, readL (bl bs) = some rs ∧ e = .returned (.tuple #[v, .int .i64 0]) ∧ w'.ownsRow B 21 1 v n (rs.map (Value.int .i32))) ∨
   (readL (bl bs) = none ∧ e = .returned (.tuple #[.slice none 0 0, .int .i64 3])))

theorem iter_kept {W w' : World} {k p B n : Nat} {e : TypeId} {s : ByteArray} {v : Value} {cs : List Value} (h : W.heap[k]? = some (.stringIter s p)) (hown : W.ownsRow B e 1 v n cs) (hg : W.grownBy w' v.ownBlock) : w'.heap[k]? = some (.stringIter s p) := by
  have hlt : k < W.heap.size := (Array.getElem?_eq_some_iff.1 h).1
  refine (hg.block k hlt ?_).trans h
  intro hk
  rcases hown.2 with ⟨rfl, _⟩ | ⟨g, cap, cur, rfl, hB, hgg, _⟩
  · simp [Value.ownBlock] at hk
  · simp [Value.ownBlock] at hk
    subst hk
    rw [hgg] at h
    cases h

/-- What a round of Read does to memory. -/
theorem read_round {w wr W w1 : World} {o : Obj} {B K pos p2 n m : Nat} {v v' : Value} {acc : List Int} {r : Int} {s : ByteArray} (hB : w.heap.size = B) (hW : wr.iterAt K s p2 = W)
    (hit : wr.heap[K]? = some (.stringIter s pos)) (hBK : B ≤ K) (hown : (wr.iterAt K s p2).ownsRow B 21 1 v n (acc.map (Value.int .i32))) (hb : Below B w wr)
    (h1 : w1.ownsRow B 21 1 v' m (acc.map (Value.int .i32) ++ [.int .i32 r])) (hg : (W.alloc o).grownBy w1 v.ownBlock) :
    w1.ownsRow B 21 1 v' m ((acc ++ [r]).map (Value.int .i32)) ∧ w1.heap[K]? = some (.stringIter s p2) ∧ Below B w w1 := by
  subst hB
  subst hW
  have hit2 := Lib.iterAt_heap wr K s pos p2 hit
  have hsz := hb.size
  have hbw2 := Lib.below_iterAt hb (k := K) hBK s p2
  have hlt : K < (wr.iterAt K s p2).heap.size := (Array.getElem?_eq_some_iff.1 hit2).1
  refine ⟨by simpa using h1, ?_, ?_⟩
  · exact iter_kept ((Below.heap_alloc _ o K hlt).trans hit2) (hown.alloc o) hg
  · have hsz2 := hbw2.size
    refine (hbw2.alloc hsz2 o).grown hg (by simp; omega) ?_
    intro j hj
    exact (hown.lt j hj).1
theorem owns_iterAt {wr : World} {B K n pos p2 : Nat} {e : TypeId} {v : Value} {cs : List Value} {s : ByteArray} (hown : wr.ownsRow B e 1 v n cs) (hit : wr.heap[K]? = some (.stringIter s pos)) : (wr.iterAt K s p2).ownsRow B e 1 v n cs := by
  refine ⟨hown.1, ?_⟩
  rcases hown.2 with hn | ⟨g, cap, cur, rfl, hB, hgg, rest⟩
  · exact .inl hn
  · refine .inr ⟨g, cap, cur, rfl, hB, ?_, rest⟩
    rw [Lib.iterAt_other, hgg]
    rintro rfl
    rw [hgg] at hit
    cases hit
theorem cell_new (w : World) (x : Value) (t : TypeId) : ∀ j u, [x][j]? = some u → (w.alloc (.cells #[x] t)).cell? ((⟨w.heap.size, 0, none⟩ : Addr).add j) = some u := by
  intro j u hj
  match j, hj with
  | 0, hj => simp at hj; subst hj; simp [Addr.add]
end Go.Proofs.Ytgckofoaiojocaa
