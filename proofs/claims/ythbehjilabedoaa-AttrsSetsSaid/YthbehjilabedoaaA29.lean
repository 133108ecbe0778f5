
import Derived.Test.YthbehjilabedoaaA24
import Derived.Test.YthbehjilabedoaaA14
import Derived.Test.YthbehjilabedoaaS11
/- A29: blocks in a range may turn, the others stay -/
namespace Go.Proofs.Ythbehjilabedoaa
open Go.RowKit
set_option linter.unusedVariables false

/-- Outside of the blocks from lo up to hi the world w' is as w was. -/
structure Out (lo hi : Nat) (w w' : World) : Prop where
  os : w'.os = w.os
  tape : w'.tape = w.tape
  output : w'.output = w.output
  size : w'.heap.size = w.heap.size
  block : ∀ k, k < lo ∨ hi ≤ k → w'.heap[k]? = w.heap[k]?
theorem Out.refl (lo hi : Nat) (w : World) : Out lo hi w w := ⟨rfl, rfl, rfl, rfl, fun _ _ => rfl⟩
theorem Out.trans {lo hi : Nat} {a b c : World} (h : Out lo hi a b) (k : Out lo hi b c) : Out lo hi a c :=
  ⟨k.os.trans h.os, k.tape.trans h.tape, k.output.trans h.output, k.size.trans h.size, fun i hi' => (k.block i hi').trans (h.block i hi')⟩
theorem Out.mono {lo hi hi' : Nat} {a b : World} (h : Out lo hi a b) (hh : hi ≤ hi') : Out lo hi' a b :=
  ⟨h.os, h.tape, h.output, h.size, fun i hi2 => h.block i (by omega)⟩
theorem Out.drewN {lo hi : Nat} {a b : World} (h : Out lo hi a b) (q : Nat) : Out lo hi a (b.drewN q) := ⟨h.os, h.tape, h.output, h.size, h.block⟩
theorem Out.setCell {lo hi : Nat} {a b : World} (h : Out lo hi a b) {p : Addr} (h1 : lo ≤ p.block) (h2 : p.block < hi) (u : Value) : Out lo hi a (b.setCell p u) :=
  h.trans ⟨rfl, rfl, rfl, by simp [World.setCell], fun k hk => Below.heap_setCell _ _ _ _ (by omega)⟩
theorem Out.below {lo hi : Nat} {a b : World} (h : Out lo hi a b) : Below lo a b := ⟨h.os, h.tape, h.output, by rw [h.size]; exact Nat.le_refl _, fun k hk => h.block k (.inl hk)⟩
theorem Out.cell {lo hi : Nat} {a b : World} (h : Out lo hi a b) {p : Addr} (hp : p.block < lo ∨ hi ≤ p.block) : b.cell? p = a.cell? p := World.cell?_of_block (w := a) (h.block p.block hp)
theorem Out.owns {lo hi base : Nat} {e : TypeId} {size : Nat} {v : Value} {n : Nat} {xs : List Value} {a b : World} (h : Out lo hi a b) (ho : a.ownsRow base e size v n xs) (hb : hi ≤ base) : b.ownsRow base e size v n xs := by
  refine ⟨ho.1, ?_⟩
  rcases ho.2 with hn | ⟨g, cap, cur, rfl, hB, hg, rest⟩
  · exact .inl hn
  · exact .inr ⟨g, cap, cur, rfl, hB, (h.block g (.inr (by omega))).trans hg, rest⟩
theorem owns_lt {base : Nat} {e : TypeId} {size : Nat} {v : Value} {n : Nat} {xs : List Value} {a : World} (ho : a.ownsRow base e size v n xs) {g : Nat} (hg : v.ownBlock = some g) : g < a.heap.size := by
  rcases ho.2 with ⟨rfl, _⟩ | ⟨g', cap, cur, rfl, hB, hh, rest⟩
  · simp [Value.ownBlock] at hg
  · simp [Value.ownBlock] at hg; subst hg; exact (Array.getElem?_eq_some_iff.1 hh).1

/-- A block of cells that may be written: so many, none of them marked. -/
def Free5 (g n : Nat) (w : World) : Prop := ∃ cur : Array Value, w.heap[g]? = some (.cells cur 28 (0, 0)) ∧ n * 5 ≤ cur.size
theorem Free5.cell {g n k : Nat} {w : World} (h : Free5 g n w) (hk : k < n) : (∃ v, w.cell? ⟨g, k * 5, none⟩ = some v) ∧ w.frozen? ⟨g, k * 5, none⟩ = false := by
  obtain ⟨cur, hh, hs⟩ := h
  refine ⟨⟨cur[k * 5]'(by omega), ?_⟩, ?_⟩
  · rw [cell_of_row w g (k * 5) cur _ _ hh]
    exact Array.getElem?_eq_getElem (by omega)
  · simp [World.frozen?, hh]
theorem Free5.set {g n : Nat} {w : World} (h : Free5 g n w) (o : Nat) (u : Value) : Free5 g n (w.setCell ⟨g, o, none⟩ u) := by
  obtain ⟨cur, hh, hs⟩ := h
  refine ⟨cur.setIfInBounds o u, ?_, by simpa using hs⟩
  simp [World.setCell, Array.getElem?_modify, hh]
theorem Free5.drewN {g n : Nat} {w : World} (h : Free5 g n w) (q : Nat) : Free5 g n (w.drewN q) := h
end Go.Proofs.Ythbehjilabedoaa
