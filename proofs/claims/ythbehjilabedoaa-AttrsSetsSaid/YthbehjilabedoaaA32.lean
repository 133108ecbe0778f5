
import Derived.Test.YthbehjilabedoaaA31
/- A32: AttrsSets: the loop's facts are made -/
namespace Go.Proofs.Ythbehjilabedoaa
open Go.RowKit
set_option linter.unusedVariables false

set_option maxHeartbeats 1000000 in
theorem loop_made {W0 w1 w2 w3 w4 w5 W6 v1 v2 v3 v4 W7 : World} (x0 x1 x2 x3 x4 z0 z1 z2 z3 z4 : Option Addr × Nat × Nat) {y0 y1 y2 y3 y4 : List Att} (t : TypeId)
    (H0 : Own5 W0 w1 (slV x0) y0) (k0 : Below W0.heap.size W0 w1)
    (H1 : Own5 w1 w2 (slV x1) y1) (k1 : Below w1.heap.size w1 w2)
    (H2 : Own5 w2 w3 (slV x2) y2) (k2 : Below w2.heap.size w2 w3)
    (H3 : Own5 w3 w4 (slV x3) y3) (k3 : Below w3.heap.size w3 w4)
    (H4 : Own5 w4 w5 (slV x4) y4) (k4 : Below w4.heap.size w4 w5)
    (hW6 : w5.alloc (.cells #[slV x0, slV x1, slV x2, slV x3, slV x4] t) = W6)
    (G0 : Own5 W6.drew v1 (slV z0) y0) (m0 : Below W6.drew.heap.size W6.drew v1)
    (G1 : Own5 v1 v2 (slV z1) y1) (m1 : Below v1.heap.size v1 v2)
    (G2 : Own5 v2 v3 (slV z2) y2) (m2 : Below v2.heap.size v2 v3)
    (G3 : Own5 v3 v4 (slV z3) y3) (m3 : Below v3.heap.size v3 v4)
    (hW7 : v4.alloc (.cells #[slV z0, slV z1, slV z2, slV z3, slV z4] t) = W7)
    (hz : Arow W0 (slV z4) y4) :
    LoopF W7 w5.heap.size v4.heap.size (five x0 x1 x2 x3 x4) (five z0 z1 z2 z3 z4) (five y0 y1 y2 y3 y4) (six W0.heap.size w1.heap.size w2.heap.size w3.heap.size w4.heap.size w5.heap.size) ∧ Below W0.heap.size W0 W7 := by
  obtain ⟨c0, c1, c2, c3, c4, hb6, hs6⟩ := five_new w5 _ _ _ _ _ t hW6
  obtain ⟨d0, d1, d2, d3, d4, hb7, hs7⟩ := five_new v4 _ _ _ _ _ t hW7
  have e1 := k0.size
  have e2 := k1.size
  have e3 := k2.size
  have e4 := k3.size
  have e5 := k4.size
  have hdr : Below W6.heap.size W6 W6.drew := (Below.refl _ _).drew
  have hds : W6.drew.heap.size = W6.heap.size := rfl
  rw [hds] at m0
  have f1 := m0.size
  have f2 := m1.size
  have f3 := m2.size
  have f4 := m3.size
  have b3 : Below v3.heap.size v3 W7 := below_add m3 hb7 f4
  have b2 : Below v2.heap.size v2 W7 := below_add m2 b3 f3
  have b1 : Below v1.heap.size v1 W7 := below_add m1 b2 f2
  have bD : Below W6.heap.size W6 W7 := hdr.trans (below_add m0 b1 f1)
  have a5 : Below w5.heap.size w5 W7 := below_add hb6 bD (by omega)
  have a4 : Below w4.heap.size w4 W7 := below_add k4 a5 e5
  have a3 : Below w3.heap.size w3 W7 := below_add k3 a4 e4
  have a2 : Below w2.heap.size w2 W7 := below_add k2 a3 e3
  have a1 : Below w1.heap.size w1 W7 := below_add k1 a2 e2
  have a0 : Below W0.heap.size W0 W7 := below_add k0 a1 e1
  refine ⟨⟨?_, ?_, ?_, ?_, ?_, ?_, ?_⟩, a0⟩
  · intro j hj
    match j, hj with
    | 0, _ => exact (own_fact H0 a1).1
    | 1, _ => exact (own_fact H1 a2).1
    | 2, _ => exact (own_fact H2 a3).1
    | 3, _ => exact (own_fact H3 a4).1
    | 4, _ => exact (own_fact H4 a5).1
  · intro j hj
    match j, hj with
    | 0, _ => exact (own_fact H0 a1).2
    | 1, _ => exact (own_fact H1 a2).2
    | 2, _ => exact (own_fact H2 a3).2
    | 3, _ => exact (own_fact H3 a4).2
    | 4, _ => exact (own_fact H4 a5).2
  · intro j hj
    match j, hj with
    | 0, _ => simp only [six]; omega
    | 1, _ => simp only [six]; omega
    | 2, _ => simp only [six]; omega
    | 3, _ => simp only [six]; omega
    | 4, _ => simp only [six]; omega
    | 5, _ => simp only [six]; omega
  · intro j hj
    match j, hj with
    | 0, _ => exact e1
    | 1, _ => exact e2
    | 2, _ => exact e3
    | 3, _ => exact e4
    | 4, _ => exact e5
  · intro j hj
    match j, hj with
    | 0, _ => exact want_fact G0 b1 (by simp only [six]; omega)
    | 1, _ => exact want_fact G1 b2 (by simp only [six]; omega)
    | 2, _ => exact want_fact G2 b3 (by simp only [six]; omega)
    | 3, _ => exact want_fact G3 hb7 (by simp only [six]; omega)
    | 4, _ => exact low_fact hz a0 (Nat.le_refl _)
  · intro j hj
    match j, hj with
    | 0, _ => exact cell_fact c0 bD (Nat.le_refl _)
    | 1, _ => exact cell_fact c1 bD (Nat.le_refl _)
    | 2, _ => exact cell_fact c2 bD (Nat.le_refl _)
    | 3, _ => exact cell_fact c3 bD (Nat.le_refl _)
    | 4, _ => exact cell_fact c4 bD (Nat.le_refl _)
  · intro j hj
    match j, hj with
    | 0, _ => exact cell_fact d0 (Below.refl _ _) (by simp only [six]; omega)
    | 1, _ => exact cell_fact d1 (Below.refl _ _) (by simp only [six]; omega)
    | 2, _ => exact cell_fact d2 (Below.refl _ _) (by simp only [six]; omega)
    | 3, _ => exact cell_fact d3 (Below.refl _ _) (by simp only [six]; omega)
    | 4, _ => exact cell_fact d4 (Below.refl _ _) (by simp only [six]; omega)
end Go.Proofs.Ythbehjilabedoaa
