
import Derived.Test.YteilhjkkgdgbkaaNR
/- NT: ArenaKeeps' walk -/
namespace Go.Proofs.Yteilhjkkgdgbkaa
open Go.RowKit Go.Shelf
open Go.Maps
set_option linter.unusedVariables false

@[reducible] def OwnM (W : World) (mb n : Nat) (D : DataW Unit) : Prop := W.ownsMap Try.prog 3 (plainElem Try.prog 2) mb n D
theorem zero64 (w : World) : (zeroValue 2).run Try.prog w = .ok (.int .i64 0) w := by kernel_rfl
theorem keyedI8 : Keyed Try.prog 3 := int_keyed Try.underlying3
theorem ownM_kept {W W' : World} {mb n : Nat} {D : DataW Unit} (h : OwnM W mb n D) (hk : W'.heap[mb]? = W.heap[mb]?) : OwnM W' mb n D := by
  obtain ⟨es, clock, h1, h2⟩ := h
  exact ⟨es, clock, hk.trans h1, h2⟩
/-- The arena of texts, and the map of what the texts are made of. -/
structure KeepW (wB : World) (ab mb : Nat) (S : Nat → Prop) (A : ArS Int) (D : DataW Unit) (n : Nat) (W : World) : Prop where
  t : Ar_S wB.heap.size S ab (mapA A) n W
  m : OwnM W mb n D
  want : WantR A D
  mS : ¬ S mb
  mB : wB.heap.size ≤ mb
  bel : Below wB.heap.size wB W
  lt : ∀ q, S q → q < W.heap.size
section
variable {wB W W' : World} {ab mb n : Nat} {S : Nat → Prop} {A : ArS Int} {D : DataW Unit}
theorem KeepW.below (h : KeepW wB ab mb S A D n W) (hb : Below W.heap.size W W') : KeepW wB ab mb S A D n W' :=
  ⟨h.t.below hb, ownM_kept h.m (hb.block _ h.m.lt), h.want, h.mS, h.mB, below_add h.bel hb h.bel.size, fun q hq => Nat.lt_of_lt_of_le (h.lt q hq) hb.size⟩
theorem KeepW.le (h : KeepW wB ab mb S A D n W) {m : Nat} (hm : n ≤ m) : KeepW wB ab mb S A D m W := { h with t := h.t.le hm, m := h.m.mono hm }
theorem KeepW.ok (h : KeepW wB ab mb S A D n W) : A.Ok := mapA_ok h.t.ok
theorem KeepW.ps (h : KeepW wB ab mb S A D n W) : A.ps.length ≤ n := by have := h.t.2.2.ps; simpa [mapA] using this
theorem KeepW.tidy (h : KeepW wB ab mb S A D n W) : Maps.Tidy D := h.m.tidy keyedI8
/-- The arena has turned, then the map. -/
theorem KeepW.turn (h : KeepW wB ab mb S A D n W) {w1 w2 : World} {S' : Nat → Prop} {A' : ArS Int} {D' : DataW Unit} {n' : Nat} (ht : Ar_S wB.heap.size S' ab (mapA A') n' w1) (hS' : ∀ q, S' q → S q ∨ W.heap.size ≤ q) (ho : Off S W w1)
    (hm : OwnM w2 mb n' D') (hg : w1.grownBy w2 (some mb)) (hw : WantR A' D') : ∃ S2, KeepW wB ab mb S2 A' D' n' w2 := by
  have hlt := h.m.lt
  have hmb : ¬ S' mb := fun e => by
    rcases hS' mb e with e | e
    · exact h.mS e
    · omega
  have ht2 : Ar_S wB.heap.size S' ab (mapA A') n' w2 := ht.kept hg.size (fun q hq hS => hg.block q hq (fun e => hmb (by injection e with e; rw [← e]; exact hS)))
  have hb := ho.below h.t.sB h.bel.size
  exact ⟨_, ht2.cutS, hm, hw, fun e => hmb e.1, h.mB, (h.bel.trans hb).grown hg (Nat.le_trans h.bel.size ho.size) (fun r e => by injection e with e; rw [← e]; exact h.mB), fun q hq => hq.2⟩
/-- The map at a world where the arena alone has turned. -/
theorem KeepW.map1 (h : KeepW wB ab mb S A D n W) {w1 : World} (ho : Off S W w1) : OwnM w1 mb n D := ownM_kept h.m (ho.block _ h.m.lt h.mS)
end

set_option maxRecDepth 100000 in
set_option maxHeartbeats 1000000 in
theorem keeps_long (v : Value) (ls : List OpL) (w : World) (h : Orow w v ls) (hl : 200 < ls.length) :
    Calls Try.prog 5 #[v] w fun e w' => e = .returned (.bool true) ∧ Below w.heap.size w w' := by
  obtain ⟨la, lc, rfl⟩ := h.shape
  have g1 : decide (200 < (ls.length : Int)) = true := by rw [decide_eq_true_iff]; omega
  have HN := Lib.hid (new_S w)
  have HK := Lib.hid (fun w => known8_any w)
  clear h
  go_enter Try.func5, Try.ntmps5
  go_wp2_with (first
    | (go_at_call 20; refine HN.out.mono ?_; rintro e w2 ⟨ab, rfl, -, hb, -⟩)
    | (go_at_call 8; refine (HK.out _).mono ?_; rintro e w3 ⟨rfl, hb3⟩))
  go_ret
  exact ⟨rfl, below_add hb hb3 hb.size⟩
end Go.Proofs.Yteilhjkkgdgbkaa
