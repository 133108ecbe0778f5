
import Derived.Test.YtkejebjppnhidaaA2
/- C1: changes as plain data -/
namespace Go.Proofs.Ytkejebjppnhidaa
open Go.RowKit
set_option linter.unusedVariables false

/-- A change: its key, whether it is gone, and the value's kind, number, bits, text. -/
structure Chg where
  key : Int
  g : Bool
  k : Int
  n : Int
  f : Int
  s : ByteArray
deriving DecidableEq

@[reducible] def cv (a : Chg) : Value := .agg #[.int .i64 a.key, .bool a.g, .int .u8 a.k, .int .i64 a.n, .int .u64 a.f, .string a.s]
@[reducible] def cc (a : Chg) : List Value := [.int .i64 a.key, .bool a.g, .int .u8 a.k, .int .i64 a.n, .int .u64 a.f, .string a.s]
@[reducible] def cca (a : Chg) : Array Value := #[.int .i64 a.key, .bool a.g, .int .u8 a.k, .int .i64 a.n, .int .u64 a.f, .string a.s]
@[reducible] def noChg : Chg := ⟨0, false, 0, 0, 0, ⟨#[]⟩⟩
instance : Inhabited Chg := ⟨noChg⟩

theorem cc_one (a : Chg) : ∀ u ∈ cc a, u.oneCell' = true := by
  intro u hu
  simp at hu
  rcases hu with rfl | rfl | rfl | rfl | rfl | rfl <;> rfl
/-- How a change lies: six cells. -/
def chC : Cel Chg := ⟨cc, 6, fun _ => rfl, cc_one, by decide⟩
theorem chC_m : chC.m = 6 := rfl
theorem chC_c (a : Chg) : chC.c a = cc a := rfl

/-- What a change's numbers are within. -/
structure ChgW (a : Chg) : Prop where
  key : (Lit.int .i64 a.key).wf = true
  k : (Lit.int .u8 a.k).wf = true
  n : (Lit.int .i64 a.n).wf = true
  f : (Lit.int .u64 a.f).wf = true
  s : a.s.size ≤ maxLen
theorem ChgW.f0 {a : Chg} (h : ChgW a) : 0 ≤ a.f := by have := Go.bounds_u64 h.f; omega
theorem ChgW.f1 {a : Chg} (h : ChgW a) : a.f < 18446744073709551616 := by have := Go.bounds_u64 h.f; omega

/-- Its six cells at a place; at a block's head. -/
@[reducible] def CAt (b o : Nat) (a : Chg) (w : World) : Prop :=
  w.cell? ⟨b, o, none⟩ = some (.int .i64 a.key) ∧ w.cell? ⟨b, o + 1, none⟩ = some (.bool a.g) ∧ w.cell? ⟨b, o + 2, none⟩ = some (.int .u8 a.k) ∧ w.cell? ⟨b, o + 3, none⟩ = some (.int .i64 a.n) ∧ w.cell? ⟨b, o + 4, none⟩ = some (.int .u64 a.f) ∧ w.cell? ⟨b, o + 5, none⟩ = some (.string a.s)
@[reducible] def CBox (b : Nat) (a : Chg) (w : World) : Prop :=
  w.cell? ⟨b, 0, none⟩ = some (.int .i64 a.key) ∧ w.cell? ⟨b, 1, none⟩ = some (.bool a.g) ∧ w.cell? ⟨b, 2, none⟩ = some (.int .u8 a.k) ∧ w.cell? ⟨b, 3, none⟩ = some (.int .i64 a.n) ∧ w.cell? ⟨b, 4, none⟩ = some (.int .u64 a.f) ∧ w.cell? ⟨b, 5, none⟩ = some (.string a.s)
theorem CAt.below {B b o : Nat} {a : Chg} {w w' : World} (h : CAt b o a w) (hb : Below B w w') (hB : b < B) : CAt b o a w' := by
  obtain ⟨h0, h1, h2, h3, h4, h5⟩ := h
  exact ⟨(hb.cell (p := ⟨b, _, none⟩) hB).trans h0, (hb.cell (p := ⟨b, _, none⟩) hB).trans h1, (hb.cell (p := ⟨b, _, none⟩) hB).trans h2, (hb.cell (p := ⟨b, _, none⟩) hB).trans h3, (hb.cell (p := ⟨b, _, none⟩) hB).trans h4, (hb.cell (p := ⟨b, _, none⟩) hB).trans h5⟩
theorem CBox.below {B b : Nat} {a : Chg} {w w' : World} (h : CBox b a w) (hb : Below B w w') (hB : b < B) : CBox b a w' := by
  obtain ⟨h0, h1, h2, h3, h4, h5⟩ := h
  exact ⟨(hb.cell (p := ⟨b, _, none⟩) hB).trans h0, (hb.cell (p := ⟨b, _, none⟩) hB).trans h1, (hb.cell (p := ⟨b, _, none⟩) hB).trans h2, (hb.cell (p := ⟨b, _, none⟩) hB).trans h3, (hb.cell (p := ⟨b, _, none⟩) hB).trans h4, (hb.cell (p := ⟨b, _, none⟩) hB).trans h5⟩
theorem CBox.box (a : Chg) (w : World) (t : TypeId) : CBox w.heap.size a (w.alloc (.cells (cca a) t)) := by
  refine ⟨?_, ?_, ?_, ?_, ?_, ?_⟩ <;> (rw [cell_of_row _ w.heap.size _ _ t (0, 0) (heap_alloc_new w _)]; rfl)
theorem CBox.lt {b : Nat} {a : Chg} {w : World} (h : CBox b a w) : b < w.heap.size := World.block_lt_of_cell? w _ h.1
theorem CAt.lt {b o : Nat} {a : Chg} {w : World} (h : CAt b o a w) : b < w.heap.size := World.block_lt_of_cell? w _ h.1

/-- A slice of changes that reads as xs. -/
@[reducible] def Crow (w : World) (v : Value) (xs : List Chg) : Prop := Row chC w v xs
theorem Crow.opn {w : World} {a : Option Addr} {n cap : Nat} {xs : List Chg} (h : Crow w (.slice a n cap) xs) (h0 : 0 < xs.length) :
    ∃ b off, a = some ⟨b, off, none⟩ ∧ n = xs.length ∧ xs.length ≤ cap ∧ cap ≤ maxLen ∧ b < w.heap.size ∧ (∀ j (hj : j < xs.length), CAt b (off + j * 6) xs[j] w) := by
  obtain ⟨b, off, ha, hn, hc, hm, hb, hat, -⟩ := Row.opened h h0
  refine ⟨b, off, ha, hn, hc, hm, hb, fun j hj => ⟨?_, ?_, ?_, ?_, ?_, ?_⟩⟩
  · exact hat j hj 0 _ rfl
  · exact hat j hj 1 _ rfl
  · exact hat j hj 2 _ rfl
  · exact hat j hj 3 _ rfl
  · exact hat j hj 4 _ rfl
  · exact hat j hj 5 _ rfl

set_option maxRecDepth 100000 in
theorem info_ch : ∃ i0, Try.prog.info? 52 = some i0 ∧ i0.zero = some (cv noChg) ∧ i0.size = 6 ∧ i0.bytes = 56 := by
  refine ⟨_, rfl, ?_, ?_, ?_⟩ <;> kernel_rfl
set_option maxRecDepth 100000 in
theorem info_at : ∃ i0, Try.prog.info? 57 = some i0 ∧ i0.zero = some (av noAtt) ∧ i0.size = 5 ∧ i0.bytes = 48 := by
  refine ⟨_, rfl, ?_, ?_, ?_⟩ <;> kernel_rfl

def ceq (a b : Chg) : Bool := (a.key == b.key) && ((a.g == b.g) && ((a.k == b.k) && (a.n == b.n) && (a.f == b.f) && (a.s.toList == b.s.toList)))
theorem ceq_iff (a b : Chg) : ceq a b = true ↔ a = b := by
  obtain ⟨a1, a0, a2, a3, a4, a5⟩ := a
  obtain ⟨b1, b0, b2, b3, b4, b5⟩ := b
  have hs : a5.toList = b5.toList ↔ a5 = b5 := by
    rw [ByteArray.toList_eq, ByteArray.toList_eq]
    exact ⟨fun h => Go.WideShapes.bytes_inj h, fun h => by rw [h]⟩
  simp [ceq, hs, and_assoc]
theorem ceq_dec (a b : Chg) : ceq a b = decide (a = b) := by
  rw [Bool.eq_iff_iff, ceq_iff]; simp

set_option maxRecDepth 100000 in
set_option maxHeartbeats 800000 in
theorem chg_in (a b : Chg) (w : World) : (Op.equalIn 10000 52 (cv a) (cv b)).run Try.prog w = .ok (ceq a b) w := by
  obtain ⟨a1, a0, a2, a3, a4, a5⟩ := a
  obtain ⟨b1, b0, b2, b3, b4, b5⟩ := b
  have hS : Try.prog.underlying 52 = some (.struct (Try.prog.fieldsOf 52)) := by kernel_rfl
  have hp : Try.prog.stoodInHeld 52 = false := by kernel_rfl
  have u0 := Try.underlying3
  have ag0 := Try.isAgg3
  have ag4 := Try.isAgg4
  have ag5 := Try.isAgg50
  have z0 := Try.sizeOf3
  have z4 := Try.sizeOf4
  have z5 := Try.sizeOf50
  rw [show (10000 : Nat) = 9999 + 1 from rfl, run_equalIn_agg w 9999 52 _ _ hS hp]
  simp only [Program.fieldsOf, Try.underlying52]
  simp only [Op.eqFields, ne_eq]
  go_simp
  unfold ceq
  by_cases h1 : a1 = b1 <;> by_cases h0 : a0 = b0 <;> by_cases h2 : a2 = b2 <;> by_cases h3 : a3 = b3 <;> by_cases h4 : a4 = b4 <;> by_cases h5 : a5.toList = b5.toList <;> simp [h1, h0, h2, h3, h4, h5]
theorem chg_eql (a b : Chg) (w : World) : (binOp .eql 52 (cv a) (cv b)).run Try.prog w = .ok (.bool (ceq a b)) w := by
  rw [run_eql_struct, chg_in]; rfl
theorem chg_neq (a b : Chg) (w : World) : (binOp .neq 52 (cv a) (cv b)).run Try.prog w = .ok (.bool (!ceq a b)) w := by
  rw [run_neq_struct, chg_in]; rfl

/-- An attribute as a change, and back. -/
@[reducible] def toC (a : Att) : Chg := ⟨a.key, false, a.k, a.n, a.f, a.s⟩
@[reducible] def toA (c : Chg) : Att := ⟨c.key, c.k, c.n, c.f, c.s⟩
/-- A new row of one, of two. -/
theorem crow_one (w : World) (x : Chg) (t : TypeId) : Crow (w.alloc (.cells (cca x) t)) (.slice (some ⟨w.heap.size, 0, none⟩) 1 1) [x] := Row.built (C := chC) w t [x] (by unfold maxLen; simp)
theorem crow_two (w : World) (x y : Chg) (t : TypeId) : Crow (w.alloc (.cells (cca x ++ cca y) t)) (.slice (some ⟨w.heap.size, 0, none⟩) 2 2) [x, y] := Row.built (C := chC) w t [x, y] (by unfold maxLen; simp)
end Go.Proofs.Ytkejebjppnhidaa
