
import Derived.Test.YtiobcifpebehnaaDoorA1
import Derived.Test.YtiobcifpebehnaaDoorVA
/- A2: attributes as plain data -/
namespace Go.Proofs.YtiobcifpebehnaaDoor
open Go.RowKit
set_option linter.unusedVariables false

/-- An attribute: its key, and the value's kind, number, bits, text. -/
structure Att where
  key : Int
  k : Int
  n : Int
  f : Int
  s : ByteArray
deriving DecidableEq

@[reducible] def av (a : Att) : Value := .agg #[.int .i64 a.key, .int .u8 a.k, .int .i64 a.n, .int .u64 a.f, .string a.s]
@[reducible] def ac (a : Att) : List Value := [.int .i64 a.key, .int .u8 a.k, .int .i64 a.n, .int .u64 a.f, .string a.s]
@[reducible] def aca (a : Att) : Array Value := #[.int .i64 a.key, .int .u8 a.k, .int .i64 a.n, .int .u64 a.f, .string a.s]
@[reducible] def noAtt : Att := ⟨0, 0, 0, 0, ⟨#[]⟩⟩
instance : Inhabited Att := ⟨noAtt⟩
/-- An attribute's value. -/
@[reducible] def vv (a : Att) : Value := val a.k a.n a.f a.s

theorem ac_one (a : Att) : ∀ u ∈ ac a, u.oneCell' = true := by
  intro u hu
  simp at hu
  rcases hu with rfl | rfl | rfl | rfl | rfl <;> rfl
/-- How an attribute lies: five cells. -/
def attC : Cel Att := ⟨ac, 5, fun _ => rfl, ac_one, by decide⟩
theorem attC_m : attC.m = 5 := rfl
theorem attC_c (a : Att) : attC.c a = ac a := rfl

/-- What an attribute's numbers are within. -/
structure AttW (a : Att) : Prop where
  key : (Lit.int .i64 a.key).wf = true
  k : (Lit.int .u8 a.k).wf = true
  n : (Lit.int .i64 a.n).wf = true
  f : (Lit.int .u64 a.f).wf = true
  s : a.s.size ≤ maxLen
theorem AttW.f0 {a : Att} (h : AttW a) : 0 ≤ a.f := by have := Go.bounds_u64 h.f; omega
theorem AttW.f1 {a : Att} (h : AttW a) : a.f < 18446744073709551616 := by have := Go.bounds_u64 h.f; omega

/-- Its five cells at a place; at a block's head. -/
@[reducible] def AAt (b o : Nat) (a : Att) (w : World) : Prop :=
  w.cell? ⟨b, o, none⟩ = some (.int .i64 a.key) ∧ w.cell? ⟨b, o + 1, none⟩ = some (.int .u8 a.k) ∧ w.cell? ⟨b, o + 2, none⟩ = some (.int .i64 a.n) ∧ w.cell? ⟨b, o + 3, none⟩ = some (.int .u64 a.f) ∧ w.cell? ⟨b, o + 4, none⟩ = some (.string a.s)
@[reducible] def ABox (b : Nat) (a : Att) (w : World) : Prop :=
  w.cell? ⟨b, 0, none⟩ = some (.int .i64 a.key) ∧ w.cell? ⟨b, 1, none⟩ = some (.int .u8 a.k) ∧ w.cell? ⟨b, 2, none⟩ = some (.int .i64 a.n) ∧ w.cell? ⟨b, 3, none⟩ = some (.int .u64 a.f) ∧ w.cell? ⟨b, 4, none⟩ = some (.string a.s)
theorem AAt.below {B b o : Nat} {a : Att} {w w' : World} (h : AAt b o a w) (hb : Below B w w') (hB : b < B) : AAt b o a w' := by
  obtain ⟨h0, h1, h2, h3, h4⟩ := h
  exact ⟨(hb.cell (p := ⟨b, _, none⟩) hB).trans h0, (hb.cell (p := ⟨b, _, none⟩) hB).trans h1, (hb.cell (p := ⟨b, _, none⟩) hB).trans h2, (hb.cell (p := ⟨b, _, none⟩) hB).trans h3, (hb.cell (p := ⟨b, _, none⟩) hB).trans h4⟩
theorem ABox.below {B b : Nat} {a : Att} {w w' : World} (h : ABox b a w) (hb : Below B w w') (hB : b < B) : ABox b a w' := by
  obtain ⟨h0, h1, h2, h3, h4⟩ := h
  exact ⟨(hb.cell (p := ⟨b, _, none⟩) hB).trans h0, (hb.cell (p := ⟨b, _, none⟩) hB).trans h1, (hb.cell (p := ⟨b, _, none⟩) hB).trans h2, (hb.cell (p := ⟨b, _, none⟩) hB).trans h3, (hb.cell (p := ⟨b, _, none⟩) hB).trans h4⟩
theorem ABox.box (a : Att) (w : World) (t : TypeId) : ABox w.heap.size a (w.alloc (.cells (aca a) t)) := by
  refine ⟨?_, ?_, ?_, ?_, ?_⟩ <;> (rw [cell_of_row _ w.heap.size _ _ t (0, 0) (heap_alloc_new w _)]; rfl)
theorem ABox.lt {b : Nat} {a : Att} {w : World} (h : ABox b a w) : b < w.heap.size := World.block_lt_of_cell? w _ h.1

/-- A slice of attributes that reads as xs. -/
@[reducible] def Arow (w : World) (v : Value) (xs : List Att) : Prop := Row attC w v xs
theorem Arow.opn {w : World} {a : Option Addr} {n cap : Nat} {xs : List Att} (h : Arow w (.slice a n cap) xs) (h0 : 0 < xs.length) :
    ∃ b off, a = some ⟨b, off, none⟩ ∧ n = xs.length ∧ xs.length ≤ cap ∧ cap ≤ maxLen ∧ b < w.heap.size ∧ (∀ j (hj : j < xs.length), AAt b (off + j * 5) xs[j] w) := by
  obtain ⟨b, off, ha, hn, hc, hm, hb, hat, -⟩ := Row.opened h h0
  refine ⟨b, off, ha, hn, hc, hm, hb, fun j hj => ⟨?_, ?_, ?_, ?_, ?_⟩⟩
  · exact hat j hj 0 _ rfl
  · exact hat j hj 1 _ rfl
  · exact hat j hj 2 _ rfl
  · exact hat j hj 3 _ rfl
  · exact hat j hj 4 _ rfl

/-- The elements' type, as the program lays it. -/
theorem info_att : Tryd.prog.info? 47 = Tryd.prog.info? 47 := rfl

def aeq (a b : Att) : Bool := (a.key == b.key) && ((a.k == b.k) && (a.n == b.n) && (a.f == b.f) && (a.s.toList == b.s.toList))
theorem aeq_iff (a b : Att) : aeq a b = true ↔ a = b := by
  obtain ⟨a1, a2, a3, a4, a5⟩ := a
  obtain ⟨b1, b2, b3, b4, b5⟩ := b
  have hs : a5.toList = b5.toList ↔ a5 = b5 := by
    rw [ByteArray.toList_eq, ByteArray.toList_eq]
    exact ⟨fun h => Go.WideShapes.bytes_inj h, fun h => by rw [h]⟩
  simp [aeq, hs, and_assoc]
theorem aeq_dec (a b : Att) : aeq a b = decide (a = b) := by
  rw [Bool.eq_iff_iff, aeq_iff]; simp

set_option maxRecDepth 100000 in
theorem att_in (a b : Att) (w : World) : (Op.equalIn 10000 47 (av a) (av b)).run Tryd.prog w = .ok (aeq a b) w := by
  obtain ⟨a1, a2, a3, a4, a5⟩ := a
  obtain ⟨b1, b2, b3, b4, b5⟩ := b
  have hS : Tryd.prog.underlying 47 = some (.struct (Tryd.prog.fieldsOf 47)) := by kernel_rfl
  have hp : Tryd.prog.stoodInHeld 47 = false := by kernel_rfl
  have u0 := Tryd.underlying3
  have ag0 := Tryd.isAgg3
  have ag5 := Tryd.isAgg45
  have z0 := Tryd.sizeOf3
  have z5 := Tryd.sizeOf45
  rw [show (10000 : Nat) = 9999 + 1 from rfl, run_equalIn_agg w 9999 47 _ _ hS hp]
  simp only [Program.fieldsOf, Tryd.underlying47]
  simp only [Op.eqFields, ne_eq]
  go_simp
  unfold aeq
  by_cases h1 : a1 = b1 <;> by_cases h2 : a2 = b2 <;> by_cases h3 : a3 = b3 <;> by_cases h4 : a4 = b4 <;> by_cases h5 : a5.toList = b5.toList <;> simp [h1, h2, h3, h4, h5]
theorem att_eql (a b : Att) (w : World) : (binOp .eql 47 (av a) (av b)).run Tryd.prog w = .ok (.bool (aeq a b)) w := by
  rw [run_eql_struct, att_in]; rfl
theorem att_neq (a b : Att) (w : World) : (binOp .neq 47 (av a) (av b)).run Tryd.prog w = .ok (.bool (!aeq a b)) w := by
  rw [run_neq_struct, att_in]; rfl
end Go.Proofs.YtiobcifpebehnaaDoor
