
import Derived.Test.YtoppgdhidnpibaaKU
import Derived.Defers
import Derived.Recover
import Derived.Laws.Pointers
/- KM: what a law's function makes of a number; asked for, come what may -/
namespace Go.Proofs.Ytoppgdhidnpibaa
open Go.RowKit
set_option linter.unusedVariables false
set_option maxRecDepth 100000

def byF (b : Int) : Int := if b < 0 ∨ 3 < b then 1 else b
def plF (p : Int) : Int := if (if 9 < p then 9 else p) < -9 then -9 else (if 9 < p then 9 else p)
/-- What a call's function makes of a number. -/
def mapF (b p id : Int) : Int := (wrap64 (wrap64 (id * byF b) + plF p)).tmod 1000
@[reducible] def opcs (o : OpV) : Array Value := #[.int .i64 o.k, .int .i64 o.i, .int .i64 o.j, .slice o.a o.l o.c, .int .i64 o.b, .int .i64 o.p]
theorem opinfo (o : OpV) : (Try.prog.info? 24).map (·.size) = some (opcs o).size := by show _ = some 6; kernel_rfl
set_option maxHeartbeats 1000000 in
theorem mapped_any (o : OpV) (id : Int) (w : World) : Calls Try.prog 14 #[opA o, .int .i64 id] w fun e w' => e = .returned (.int .i64 (mapF o.b o.p id)) ∧ Below w.heap.size w w' := by
  rw [show opA o = .agg (opcs o) from rfl]
  have hb := (Below.refl w.heap.size w).alloc (Nat.le_refl _) (.cells (opcs o) 24)
  have hc := cb_new w 24 (opcs o)
  have e0 : mapF o.b o.p id = (wrap64 (wrap64 (id * byF o.b) + plF o.p)).tmod 1000 := rfl
  rw [e0]
  obtain ⟨y, hy⟩ : ∃ y, byF o.b = y := ⟨_, rfl⟩
  obtain ⟨p, hp⟩ : ∃ p, plF o.p = p := ⟨_, rfl⟩
  rw [hy, hp]
  unfold byF at hy
  unfold plF at hp
  go_enter Try.func14, Try.ntmps14
  go_upto_region 1 with fail
  refine with_worldT (fun W => Cb w.heap.size 24 (opcs o) W ∧ Below w.heap.size w W) ⟨hc, hb⟩ fun W0 hW0 => ?_
  have K_0 := Lib.hid (hW0.1.below (below_drew _))
  have B_0 := Lib.hid hW0.2.drew
  clear hW0 hb hc e0
  refine h_start (S := fun W => Cb w.heap.size 24 (opcs o) W) (by kernel_rfl) ?_
  refine h_val (i := 0) (v := .pointer (some ⟨w.heap.size, 4, none⟩)) rfl (by kernel_rfl) (by kernel_rfl) (by kernel_rfl) (fun _ _ _ h => h) (by rfl) (fun wz hS => ?_) K_0.out ?_
  · go_simp
  go_frame
  refine h_val (i := 1) (v := .int .i64 o.b) rfl (by kernel_rfl) (by kernel_rfl) (by kernel_rfl) (fun _ _ _ h => h) (by rfl) (fun wz hS => ?_) K_0.out ?_
  · have q : wz.cell? ⟨w.heap.size, 4, none⟩ = some (.int .i64 o.b) := hS.cell 4
    go_simp
  go_frame
  refine h_val (i := 2) (v := .pointer (some ⟨w.heap.size, 5, none⟩)) rfl (by kernel_rfl) (by kernel_rfl) (by kernel_rfl) (fun _ _ _ h => h) (by rfl) (fun wz hS => ?_) K_0.out ?_
  · go_simp
  go_frame
  refine h_val (i := 3) (v := .int .i64 o.p) rfl (by kernel_rfl) (by kernel_rfl) (by kernel_rfl) (fun _ _ _ h => h) (by rfl) (fun wz hS => ?_) K_0.out ?_
  · have q : wz.cell? ⟨w.heap.size, 5, none⟩ = some (.int .i64 o.p) := hS.cell 5
    go_simp
  go_frame
  refine h_all1 (i := 4) (by kernel_rfl) ?_
  refine o_step rfl (by rfl) ?_
  refine wp_val (v := .int .i64 o.b) (by go_simp) ?_
  refine ⟨K_0.out, ?_⟩
  go_frame
  refine h_all1 (i := 5) (by kernel_rfl) ?_
  refine o_step rfl (by rfl) ?_
  refine wp_val (v := .int .i64 o.p) (by go_simp) ?_
  refine ⟨K_0.out, ?_⟩
  go_frame
  refine h_done (by kernel_rfl) ?_
  by_cases h1 : o.b < 0 <;> by_cases h2 : 3 < o.b <;> by_cases h3 : 9 < o.p <;> by_cases h4 : o.p < -9 <;>
  (simp only [h1, h2, h3, h4, or_true, true_or, or_self, if_true, if_false] at hy hp
   first
   | (exfalso; omega)
   | (subst hy
      try rw [if_neg (by decide : ¬ ((9 : Int) < -9))] at hp
      subst hp
      go_wp2
      go_ret
      first
      | exact ⟨rfl, B_0.out⟩
      | exact ⟨by rw [Int.mul_one]; rfl, B_0.out⟩))
end Go.Proofs.Ytoppgdhidnpibaa
