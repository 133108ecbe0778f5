
import Derived.Test.YtiobcifpebehnaaDoorI1
import Derived.Test.YtiobcifpebehnaaDoorShelf
import Derived.Lib.OthersKept
import Derived.Lib.BufferKept
import Derived.Lib.AppendStr
/- I2: textOf -/
namespace Go.Proofs.YtiobcifpebehnaaDoor
open Go.RowKit
set_option linter.unusedVariables false

/-- The library's table of powers of ten. -/
@[reducible] def Tab (B : Nat) (w : World) : Prop := Lib.TabBelow Tryd.prog B w "internal/strconv.uint64pow10" .u64 Lib.pow10Tab

set_option maxRecDepth 100000 in
theorem info_u8 : ∃ i, Tryd.prog.info? 5 = some i ∧ i.zero = some (.int .u8 0) ∧ i.size = 1 ∧ i.bytes = 1 := ⟨_, rfl, rfl, rfl, rfl⟩
@[reducible] def vca (a : Att) : Array Value := #[.int .u8 a.k, .int .i64 a.n, .int .u64 a.f, .string a.s]
/-- The text so far, and the round's two blocks. -/
structure TxS (B : Nat) (w W : World) (ba bv : Nat) (a : Att) (v : Value) (l : List UInt8) : Prop where
  own : W.ownsRow B 5 1 v l.length (Lib.byteCells l)
  bel : Below B w W
  tab : Tab B W
  ha : W.heap[ba]? = some (.cells (aca a) 47 (0, 0))
  hv : W.heap[bv]? = some (.cells (vca a) 45 (0, 0))
  hB : B ≤ W.heap.size
theorem TxS.num {B : Nat} {w W W' : World} {ba bv : Nat} {a : Att} {v v' : Value} {l m : List UInt8} (h : TxS B w W ba bv a v l)
    (ho : W'.ownsRow B 5 1 v' (l.length + m.length) (Lib.byteCells l ++ Lib.byteCells m)) (hb : Below B W W') (hk : Lib.OthersKept 5 none W W') : TxS B w W' ba bv a v' (l ++ m) := by
  refine ⟨?_, h.bel.trans hb, h.tab.on hb, hk ba _ h.ha (by simp) (by intro c fz e; simp at e), hk bv _ h.hv (by simp) (by intro c fz e; simp at e), Nat.le_trans h.hB hb.size⟩
  rw [List.length_append, Lib.byteCells_append]; exact ho
theorem TxS.alloc {B : Nat} {w W : World} {ba bv : Nat} {a : Att} {v : Value} {l : List UInt8} (h : TxS B w W ba bv a v l) (o : Obj) : TxS B w (W.alloc o) ba bv a v l := by
  have hb := (Below.refl B W).alloc h.hB o
  have hb2 := (Below.refl W.heap.size W).alloc (Nat.le_refl _) o
  have ha := (Array.getElem?_eq_some_iff.1 h.ha).1
  have hv := (Array.getElem?_eq_some_iff.1 h.hv).1
  exact ⟨owns_below h.own hb2, h.bel.trans hb, h.tab.on hb, (hb2.block _ ha).trans h.ha, (hb2.block _ hv).trans h.hv, Nat.le_trans h.hB hb.size⟩
theorem TxS.grown {B : Nat} {w W W' : World} {ba bv : Nat} {a : Att} {v v' : Value} {l m : List UInt8} (h : TxS B w W ba bv a v l)
    (ho : W'.ownsRow B 5 1 v' (l.length + m.length) (Lib.byteCells l ++ Lib.byteCells m)) (hg : W.grownBy W' v.ownBlock) : TxS B w W' ba bv a v' (l ++ m) :=
  h.num ho ((Below.refl B W).grown hg h.hB (fun j hj => own_base h.own hj)) ((Lib.OthersKept.refl _ _ _).grown hg (Lib.ownsRow_kind h.own))
theorem TxS.cells {B : Nat} {w W : World} {ba bv : Nat} {a : Att} {v : Value} {l : List UInt8} (h : TxS B w W ba bv a v l) :
    W.cell? ⟨ba, 0, none⟩ = some (.int .i64 a.key) ∧ W.cell? ⟨bv, 0, none⟩ = some (.int .u8 a.k) ∧ W.cell? ⟨bv, 1, none⟩ = some (.int .i64 a.n) ∧ W.cell? ⟨bv, 2, none⟩ = some (.int .u64 a.f) ∧ W.cell? ⟨bv, 3, none⟩ = some (.string a.s) := by
  refine ⟨?_, ?_, ?_, ?_, ?_⟩
  · rw [cell_of_row W ba 0 _ _ _ h.ha]; rfl
  · rw [cell_of_row W bv 0 _ _ _ h.hv]; rfl
  · rw [cell_of_row W bv 1 _ _ _ h.hv]; rfl
  · rw [cell_of_row W bv 2 _ _ _ h.hv]; rfl
  · rw [cell_of_row W bv 3 _ _ _ h.hv]; rfl

theorem attT_snoc (a : Att) : attT a [] = Lib.itoa a.key ++ [32] ++ Lib.decDigits a.k.toNat ++ [32] ++ Lib.itoa a.n ++ [32] ++ Lib.decDigits a.f.toNat ++ [32] ++ Lib.itoa (a.s.size : Int) ++ [32] ++ a.s.data.toList := by
  unfold attT
  simp
theorem txt_snoc {x : List Att} {k : Nat} (h : k < x.length) : txt (x.take (k + 1)) = txt (x.take k) ++ attT x[k] [] := by
  rw [List.take_succ_eq_append_getElem h, txt_app]; rfl

/-- The loop's relation. -/
def TxRel (w : World) (xs : List Att) (k : Nat) (v : Value) (wr : World) : Prop :=
  wr.ownsRow w.heap.size 5 1 v (txt (xs.take k)).length (Lib.byteCells (txt (xs.take k))) ∧ Below w.heap.size w wr
theorem txt_init (w : World) (xs : List Att) : TxRel w xs 0 (.slice none 0 0) w := ⟨⟨rfl, .inl ⟨rfl, rfl⟩⟩, Below.refl _ _⟩
theorem TxRel.start {w wr : World} {xs : List Att} {k : Nat} {v : Value} (h : TxRel w xs k v wr) (ht : Tab w.heap.size w) (a : Att) :
    TxS w.heap.size w ((wr.alloc (.cells (aca a) 47)).alloc (.cells (vca a) 45)) wr.heap.size (wr.heap.size + 1) a v (txt (xs.take k)) := by
  have hz := h.2.size
  have hb1 := (Below.refl wr.heap.size wr).alloc (Nat.le_refl _) (.cells (aca a) 47)
  have hb2 := hb1.alloc (by simp) (.cells (vca a) 45)
  have hb := below_add h.2 hb2 hz
  refine ⟨owns_below h.1 hb2, hb, ht.on hb, ?_, ?_, ?_⟩
  · rw [Below.heap_alloc _ _ _ (by simp)]; exact heap_alloc_new wr _
  · have := heap_alloc_new (wr.alloc (.cells (aca a) 47)) (.cells (vca a) 45)
    simpa using this
  · simp; omega
end Go.Proofs.YtiobcifpebehnaaDoor
