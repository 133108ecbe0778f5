
import Derived.Test.YteodfbkfpboehaaDS
/- DV: a new tree -/
namespace Go.Proofs.Yteodfbkfpboehaa
open Go.RowKit
set_option linter.unusedVariables false
set_option maxRecDepth 100000

theorem wp_box_row {P : Program} {op : Oper} {a : Act} {w : World} {K : Act → World → Prop} {Q : Exit → Act → World → Prop} (ty : TypeId) (x : Operand) (ho : op.op = .box ty x) (cells : Array Value) (hx : a.eval x = .agg cells)
    (h : K (a.put op.dst (.pointer (some ⟨w.heap.size, 0, none⟩))) (w.alloc (.cells cells ty))) : op.wp P a w K Q := by
  have hrun : (execOp a.eval op).run P w = .ok (.value (.pointer (some ⟨w.heap.size, 0, none⟩))) (w.alloc (.cells cells ty)) := by
    simp [execOp, ho, hx, Instr.box, newVar, newRow, Value.cells]
  unfold Oper.wp
  rw [hrun]
  exact h
section
variable {Q : Nat} {D : Sv → Prop} {S : Nat → Prop} {tb : Nat} {root : Int} {F : List TC} {w w' W : World}
theorem treenew_any (w : World) : Calls Try.prog 52 #[.agg #[.func (.func 54) #[] #[], .func (.func 55) #[] #[], .func (.func 56) #[] #[]]] w fun e w' => ∃ tb : Nat, e = .returned (.pointer (some ⟨tb, 0, none⟩)) ∧ Sq (fun _ => False) 0 (fun k => w.heap.size ≤ k) tb (-1) [] w' ∧ Below w.heap.size w w' := by
  go_enter Try.func52, Try.ntmps52
  go_wp2_with fail
  refine with_worldT (fun W => Cb w.heap.size 88 #[.func (.func 54) #[] #[], .func (.func 55) #[] #[], .func (.func 56) #[] #[]] W ∧ Below w.heap.size w W) ⟨cb_new w _ _, (Below.refl _ w).alloc (Nat.le_refl _) _⟩ fun W0 hW0 => ?_
  have B_0 := Lib.hid hW0.2.drew
  have K_0 := Lib.hid (show Cb w.heap.size 88 #[.func (.func 54) #[] #[], .func (.func 55) #[] #[], .func (.func 56) #[] #[]] W0.drew from hW0.1.below (below_drew _))
  clear hW0
  refine h_start (S := fun W => Cb w.heap.size 88 #[.func (.func 54) #[] #[], .func (.func 55) #[] #[], .func (.func 56) #[] #[]] W) (by kernel_rfl) ?_
  refine h_val (i := 0) (v := .agg #[.func (.func 54) #[] #[], .func (.func 55) #[] #[], .func (.func 56) #[] #[]]) rfl (by kernel_rfl) (by kernel_rfl) (by kernel_rfl) (fun _ _ _ h => h) (by rfl) (fun wz hS => ?_) K_0.out ?_
  · skip
    exact x_load 88 (.tmp 1) rfl _ rfl _ _ _ _ hS Try.underlying88 rfl (by show _ = some 3; kernel_rfl)
  go_frame
  refine h_all1 (i := 1) (by kernel_rfl) ?_
  refine o_call (f := 75) (args := #[]) rfl (by rfl) (by go_simp) ?_
  refine (new_N W0.drew).mono ?_
  rintro e w1 ⟨an, rfl, ha, b1, z1⟩
  have HA1 := Lib.hid ha
  have K_1 := Lib.hid (K_0.out.below b1)
  have B_1 := Lib.hid (below_add B_0.out b1 B_0.out.size)
  clear ha b1 z1
  refine ⟨_, rfl, K_1.out, ?_⟩
  go_frame
  refine h_all1 (i := 2) (by kernel_rfl) ?_
  refine o_call (f := 76) (args := #[]) rfl (by rfl) (by go_simp) ?_
  refine (new_X w1).mono ?_
  rintro e w2 ⟨cn, rfl, hc, b2, z2⟩
  have HC2 := Lib.hid hc
  have HA2 := Lib.hid (HA1.out.below b2)
  have K_2 := Lib.hid (K_1.out.below b2)
  have B_2 := Lib.hid (below_add B_1.out b2 B_1.out.size)
  have Z2 := Lib.hid b2.size
  clear hc b2 z2
  refine ⟨_, rfl, K_2.out, ?_⟩
  go_frame
  refine h_val (i := 3) (v := .agg #[.func (.func 54) #[] #[], .func (.func 55) #[] #[], .func (.func 56) #[] #[], .pointer (some ⟨an, 0, none⟩), .pointer (some ⟨cn, 0, none⟩), .int .i64 (-1)]) rfl (by kernel_rfl) (by kernel_rfl) (by kernel_rfl) (fun _ _ _ h => h) (by rfl) (fun wz hS => ?_) K_2.out ?_
  · skip
    go_simp
  go_frame
  refine h_all1 (i := 4) (by kernel_rfl) ?_
  refine o_step rfl (by rfl) ?_
  refine wp_box_row 92 (.tmp 6) rfl #[.func (.func 54) #[] #[], .func (.func 55) #[] #[], .func (.func 56) #[] #[], .pointer (some ⟨an, 0, none⟩), .pointer (some ⟨cn, 0, none⟩), .int .i64 (-1)] rfl ?_
  have K_3 := Lib.hid (K_2.out.alloc (.cells #[.func (.func 54) #[] #[], .func (.func 55) #[] #[], .func (.func 56) #[] #[], .pointer (some ⟨an, 0, none⟩), .pointer (some ⟨cn, 0, none⟩), .int .i64 (-1)] 92))
  have B_3 := Lib.hid (B_2.out.alloc B_2.out.size (.cells #[.func (.func 54) #[] #[], .func (.func 55) #[] #[], .func (.func 56) #[] #[], .pointer (some ⟨an, 0, none⟩), .pointer (some ⟨cn, 0, none⟩), .int .i64 (-1)] 92))
  have V3 := Lib.hid (cb_new w2 92 #[.func (.func 54) #[] #[], .func (.func 55) #[] #[], .func (.func 56) #[] #[], .pointer (some ⟨an, 0, none⟩), .pointer (some ⟨cn, 0, none⟩), .int .i64 (-1)])
  have HA3 := Lib.hid (HA2.out.below (below_alloc1 w2 (.cells #[.func (.func 54) #[] #[], .func (.func 55) #[] #[], .func (.func 56) #[] #[], .pointer (some ⟨an, 0, none⟩), .pointer (some ⟨cn, 0, none⟩), .int .i64 (-1)] 92)))
  have HC3 := Lib.hid (HC2.out.below (below_alloc1 w2 (.cells #[.func (.func 54) #[] #[], .func (.func 55) #[] #[], .func (.func 56) #[] #[], .pointer (some ⟨an, 0, none⟩), .pointer (some ⟨cn, 0, none⟩), .int .i64 (-1)] 92)))
  refine ⟨K_3.out, ?_⟩
  go_frame
  refine h_val (i := 5) (v := .pointer (some ⟨w2.heap.size, 0, none⟩)) rfl (by kernel_rfl) (by kernel_rfl) (by kernel_rfl) (fun _ _ _ h => h) (by rfl) (fun wz hS => ?_) K_3.out ?_
  · skip
    go_simp
  go_frame
  refine h_done (by kernel_rfl) ?_
  go_wp2
  go_ret
  refine ⟨w2.heap.size, rfl, ⟨⟨an, cn, _, _, newA, newA, ⟨V3.out, HA3.out, HC3.out, fun k hk => ?_, fun k hk => ?_, ?_, fun k hk hv => ?_, fun hk => ?_, fun hk => ?_, fun k hk => ?_, fun k hk => ?_, fun d hd => hd.elim, fun t x hx => (by simp [newA, ArS.at_] at hx)⟩, has_new⟩, Nat.le_refl _⟩, B_3.out⟩
  · have := B_0.out.size; have := hk.1; show w.heap.size ≤ k; omega
  · have := B_1.out.size; have := hk.1; show w.heap.size ≤ k; omega
  · exact B_2.out.size
  · have := hk.2; have := hv.1; omega
  · have := hk.2; have := Z2.out; omega
  · have := hk.2; omega
  · have h2 := hk.2; have := Z2.out; rw [World.size_alloc]; omega
  · have h2 := hk.2; rw [World.size_alloc]; omega
theorem blank_any (w : World) : Calls Try.prog 36 #[] w fun e w' => ∃ tb : Nat, e = .returned (.pointer (some ⟨tb, 0, none⟩)) ∧ Sq (fun _ => False) 0 (fun k => w.heap.size ≤ k) tb (Tr.nil : TC).id [.nil] w' ∧ Below w.heap.size w w' := by
  have HN := Lib.hid (treenew_any w)
  go_enter Try.func36, Try.ntmps36
  go_wp2_with (go_at_call 52; refine HN.out.mono ?_; rintro e w1 ⟨tb, rfl, ss, bb⟩; have SS := Lib.hid ss; have BB := Lib.hid bb; clear ss bb)
  go_ret
  exact ⟨tb, rfl, ⟨SS.out.1.nil, by simp [tot, Tr.el, Way.wt_nil]⟩, BB.out⟩
theorem Sq.cut (h : Sq D Q S tb root F w) : Sq D Q (fun k => S k ∧ k < w.heap.size) tb root F w := ⟨h.1.cut, h.2⟩
theorem Sq.off {X : Nat → Prop} (h : Sq D Q S tb root F w) (ho : Off X w w') (hd : ∀ k, S k → ¬ X k) : Sq D Q S tb root F w' := ⟨h.1.off ho hd, h.2⟩
theorem Sq.ways (h : Sq D Q S tb root F w) : w.cell? ⟨tb, 0, none⟩ = some (.func (.func 54) #[] #[]) ∧ w.cell? ⟨tb, 1, none⟩ = some (.func (.func 55) #[] #[]) ∧ w.cell? ⟨tb, 2, none⟩ = some (.func (.func 56) #[] #[]) := by
  obtain ⟨⟨an, cn, U, V, A, C, h1, h2⟩, h3⟩ := h
  exact ⟨h1.cells.1, h1.cells.2.1, h1.cells.2.2.1⟩
theorem Sq.tS (h : Sq D Q S tb root F w) : S tb ∧ tb < w.heap.size := by
  obtain ⟨⟨an, cn, U, V, A, C, h1, h2⟩, h3⟩ := h
  exact ⟨h1.tS, h1.lt⟩
/-- S, and what is made from now on. -/
def UpS (S : Nat → Prop) (w : World) : Nat → Prop := fun k => S k ∨ w.heap.size ≤ k
theorem ups_up (S : Nat → Prop) (w : World) : Up (UpS S w) w := fun k hk => .inr hk
theorem Off.unup (h : Off (UpS S w) w w') : Off S w w' := Off.cut h
theorem ZZ5 {z : Nat} {a b : World} (h : Below z a b) : a.heap.size ≤ b.heap.size := h.size
theorem heap_alloc_map (w : World) : (w.alloc (.map #[] 0)).heap[w.heap.size]? = some (.map #[] 0) := heap_alloc_new w _
end
end Go.Proofs.Yteodfbkfpboehaa
