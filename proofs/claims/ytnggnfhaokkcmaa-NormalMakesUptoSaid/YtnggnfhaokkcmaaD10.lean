
import Derived.Test.YtnggnfhaokkcmaaRows
import Derived.WalkKit
import Derived.ProofKit
import Derived.Below
import Derived.BigQuiet
import Derived.Deep.QuietTactic
import Derived.Lib.Hide
import Derived.OpenShut
import Derived.Laws.AppendOwnNone
import Derived.Laws.CopyOwn
import Derived.Deep.Quiet
import Derived.Test.YtnggnfhaokkcmaaShelf
import Derived.Lib.RuneBytes
import Derived.Lib.ValidLaws
import Derived.Lib.RuneCount
import Derived.Lib.OthersKept
import Derived.Laws.BytesArg
import Derived.Laws.StructEq
import Derived.Laws.Cover2
import Derived.Laws.FloatBits
import Derived.Laws.FloatArith
import Derived.Laws.Externs
import Derived.Laws.Bits64
import Derived.Laws.Bits64b
import Derived.Laws.BitsAllLaws
import Derived.Lib.ConvBytes
import Derived.Laws.AppendOwn
import Derived.Deep.RegionHeld3
import Derived.Test.YtnggnfhaokkcmaaProg
import Derived.Shelf.Pu.Clone
import Derived.Lib.SmallJoins
import Derived.ChangeArms
import Derived.ChangeSame
import Derived.ChangeMaps5
import Derived.ShutString
import Derived.SizedLaws
import Derived.RegionTactic
import Derived.BigRegion
import Derived.StillTailTactics
import Derived.Deep.AppendLies
import Derived.Lib.AppendZeros
import Derived.Laws.Cover3
import Derived.Shelf.Abstract
import Derived.Deep.Slices
import Derived.Deep.Fields
import Derived.Deep.RegionLaw
import Derived.Deep.Cut
import Derived.Deep.MidRow
import Derived.OwnWalkIn
import Derived.TacticsInMore
import Derived.LoopNIn
import Derived.LoopIn
/- B -/
namespace Go.Proofs.Ytnggnfhaokkcmaa
open Go.RowKit
set_option linter.unusedVariables false

theorem ret_bool {a b : Bool} (h : a = b) : Ending.returned (.bool a) = .returned (.bool b) := by rw [h]
theorem ret_int {k : IntKind} {a b : Int} (h : a = b) : Ending.returned (.int k a) = .returned (.int k b) := by rw [h]

/-- A slice of integers of kind k that reads as xs. -/
def Ints (k : IntKind) (w : World) (v : Value) (xs : List Int) : Prop :=
  (∃ a cap, v = .slice a 0 cap ∧ xs = [] ∧ cap ≤ maxLen ∧ (a = none → cap = 0)) ∨
  ∃ b off cap, v = .slice (some ⟨b, off, none⟩) xs.length cap ∧ 0 < xs.length ∧ xs.length ≤ cap ∧ cap ≤ maxLen ∧
    (∀ j, j < xs.length → w.cell? ⟨b, off + j, none⟩ = some (.int k (xs.getD j 0)))

theorem Ints.below {k : IntKind} {w w' : World} {v : Value} {xs : List Int} (h : Ints k w v xs) (hb : Below w.heap.size w w') : Ints k w' v xs := by
  rcases h with h | ⟨b, off, cap, rfl, h0, h1, h2, h3⟩
  · exact .inl h
  · refine .inr ⟨b, off, cap, rfl, h0, h1, h2, fun j hj => ?_⟩
    have := h3 j hj
    rw [← this]
    exact hb.cell (p := ⟨b, off + j, none⟩) (World.block_lt_of_cell? w _ this)

theorem Ints.len {k : IntKind} {w : World} {v : Value} {xs : List Int} (h : Ints k w v xs) : xs.length ≤ 9223372036854775807 := by
  rcases h with ⟨a, cap, rfl, rfl, _⟩ | ⟨b, off, cap, rfl, h0, h1, h2, h3⟩
  · simp
  · unfold maxLen at h2; omega

/-- A row of bytes, or of numbers, that the call owns, reads as what it owns. -/
theorem Ints.of_owns {k : IntKind} {w : World} {base : Nat} {e : TypeId} {v : Value} {n : Nat} {xs : List Int} (h : w.ownsRow base e 1 v n (xs.map (Value.int k))) : Ints k w v xs ∧ n = xs.length := by
  have hn : n = xs.length := by have := h.1; simp at this; omega
  subst hn
  refine ⟨?_, rfl⟩
  by_cases hx : xs = []
  · subst hx
    rcases h.2 with ⟨rfl, _⟩ | ⟨g, cap, cur, rfl, hb, hg, hc, hm, _⟩
    · exact .inl ⟨none, 0, rfl, rfl, by simp, fun _ => rfl⟩
    · exact .inl ⟨_, cap, rfl, rfl, hm, by simp⟩
  · have hpos : 0 < xs.length := List.length_pos_iff.2 hx
    rcases h.2 with ⟨rfl, h0⟩ | ⟨g, cap, cur, hv, hb, hg, hc, hm, _⟩
    · omega
    · subst hv
      refine .inr ⟨g, 0, cap, rfl, hpos, hc, hm, fun j hj => ?_⟩
      have := h.cells (g := g) rfl j (.int k (xs.getD j 0)) (by simp [List.getD, hj])
      rw [Go.WideShapes.add_plain] at this
      simpa using this
end Go.Proofs.Ytnggnfhaokkcmaa

/- R -/
namespace Go.Proofs.Ytnggnfhaokkcmaa
open Go.RowKit
set_option linter.unusedVariables false

/-- What a law is told of a slice of integers that came in: nil; or a row of cap cells. -/
def IsRow (k : IntKind) (w : World) (a : Option Addr) (len cap : Nat) (zs : List Int) : Prop :=
  (a = none ∧ len = 0 ∧ cap = 0 ∧ zs = []) ∨
  ∃ x, a = some x ∧ len ≤ cap ∧ cap ≤ maxLen ∧ zs.length = cap ∧ (∀ i, i < zs.length → w.cell? (x.add i) = some (.int k (zs.getD i 0))) ∧ ∀ n ∈ zs, (Lit.int k n).wf = true

theorem IsRow.ints {k : IntKind} {w : World} {a : Option Addr} {len cap : Nat} {zs : List Int} (h : IsRow k w a len cap zs) : Ints k w (.slice a len cap) (zs.take len) := by
  rcases h with ⟨rfl, rfl, rfl, rfl⟩ | ⟨x, rfl, hl, hm, hz, hc, _⟩
  · exact .inl ⟨none, 0, rfl, rfl, by simp, fun _ => rfl⟩
  · have hlen : (zs.take len).length = len := by rw [List.length_take]; omega
    by_cases h0 : len = 0
    · subst h0
      exact .inl ⟨some x, cap, rfl, by simp, hm, by simp⟩
    · obtain ⟨b, off, rfl, hc2⟩ := ints_at hc (by omega)
      refine .inr ⟨b, off, cap, by rw [hlen], by omega, by omega, hm, fun j hj => ?_⟩
      rw [hlen] at hj
      rw [hc2 j (by omega)]
      simp [List.getD, hj]
theorem IsRow.wf {k : IntKind} {w : World} {a : Option Addr} {len cap : Nat} {zs : List Int} (h : IsRow k w a len cap zs) : ∀ n ∈ zs.take len, (Lit.int k n).wf = true := by
  rcases h with ⟨rfl, rfl, rfl, rfl⟩ | ⟨x, rfl, hl, hm, hz, hc, hw⟩
  · simp
  · intro n hn
    exact hw n (List.mem_of_mem_take hn)
theorem wf_u8 {x : Int} (h : (Lit.int .u8 x).wf = true) : 0 ≤ x ∧ x < 256 := by
  have := Go.bounds_u8 h
  omega
end Go.Proofs.Ytnggnfhaokkcmaa

/- W -/
namespace Go.Proofs.Ytnggnfhaokkcmaa
open Go.RowKit
set_option linter.unusedVariables false

theorem grown_refl (w : World) (row : Option Nat) : w.grownBy w row := ⟨rfl, rfl, rfl, Nat.le_refl _, fun _ _ _ => rfl⟩

theorem ints_cells {k : IntKind} (zs : List Int) : ∀ u ∈ zs.map (Value.int k), u.oneCell' = true := by
  intro u hu
  simp at hu
  obtain ⟨x, _, rfl⟩ := hu
  rfl

/-- append(out, src...): out the call's own, src whatever slice of integers, nil too. -/
theorem wpList_append_ints {P : Program} {w : World} {ops : Array Oper} {rest : List Oper} {o : Oper} {a : Act} {Q : Exit → Act → World → Prop} (hgd : o.guard = none) (s x : Operand) (t : TypeId)
    (ho : o.op = .call { callee := .builtin .append, args := #[s, x], argTypes := #[t, t] })
    (base : Nat) (e : TypeId) (i : TypeInfo) (z : Value) (bytes : Nat) (ht : P.underlying t = some (.slice e)) (hi : P.info? e = some i) (hz : i.zero = some z)
    (hsize : i.size = 1) (hby : i.bytes = bytes) (hzs : z.cells.size = 1)
    (v : Value) (n : Nat) (cs : List Value) (hs : a.eval s = v) (hown : w.ownsRow base e 1 v n cs)
    (u : Value) (k : IntKind) (ys : List Int) (hx : a.eval x = u) (hu : Ints k w u ys)
    (h63 : n + ys.length ≤ maxLen) (hbytes : (n + ys.length) * bytes ≤ 140737488355328) (hbase : base ≤ w.heap.size)
    (h : ∀ v' w', w'.ownsRow base e 1 v' (n + ys.length) (cs ++ ys.map (Value.int k)) → w.grownBy w' v.ownBlock → wpList P ops Q rest (a.put o.dst v') w') : wpList P ops Q (o :: rest) a w := by
  rcases hu with ⟨ad, cap, rfl, rfl, hm, hc0⟩ | ⟨b, off, cap, rfl, h0, h1, hm, hc⟩
  · cases ad with
    | none =>
      obtain rfl := hc0 rfl
      exact wpList_append_own_none hgd s x t ho base e i 1 ht hi v n cs hs hown hx (h v w (by simpa using hown) (grown_refl _ _))
    | some ad =>
      exact wpList_append_own w hgd s x t ho base e i z 1 bytes ht hi hz hsize hby hzs (by decide) v n cs hs hown ad 0 cap [] hx rfl (by intro j u hj; simp at hj) (by intro u hu; cases hu) h63 hbytes hbase (fun v' w' q1 q2 _ => h v' w' (by simpa using q1) q2)
  · refine wpList_append_own w hgd s x t ho base e i z 1 bytes ht hi hz hsize hby hzs (by decide) v n cs hs hown ⟨b, off, none⟩ ys.length cap (ys.map (Value.int k)) hx (by simp) ?_ (ints_cells _) h63 hbytes hbase (fun v' w' q1 q2 _ => h v' w' q1 q2)
    intro j u hj
    have hjl : j < ys.length := by
      have := (List.getElem?_eq_some_iff.1 hj).1
      simpa using this
    rw [Go.WideShapes.add_plain, hc j hjl]
    simp [List.getD, hjl] at hj ⊢
    exact hj
end Go.Proofs.Ytnggnfhaokkcmaa

/- K -/
namespace Go.Proofs.Ytnggnfhaokkcmaa
open Go.RowKit
set_option linter.unusedVariables false

theorem ints_nil (k : IntKind) (w : World) : Ints k w (.slice none 0 0) [] := .inl ⟨none, 0, rfl, rfl, by simp, fun _ => rfl⟩
theorem Ints.shape {k : IntKind} {w : World} {v : Value} {xs : List Int} (h : Ints k w v xs) : ∃ a cap, v = .slice a xs.length cap := by
  rcases h with ⟨a, cap, rfl, rfl, hm, _⟩ | ⟨b, off, cap, rfl, h0, h1, hm, hc⟩
  · exact ⟨a, cap, rfl⟩
  · exact ⟨_, _, rfl⟩
theorem owns_built (w : World) (e : TypeId) (cur : Array Value) (hm : cur.size ≤ maxLen) :
    (w.alloc (.cells cur e)).ownsRow w.heap.size e 1 (.slice (some ⟨w.heap.size, 0, none⟩) cur.size cur.size) cur.size cur.toList :=
  ⟨by simp, .inr ⟨w.heap.size, cur.size, cur, rfl, Nat.le_refl _, heap_alloc_new w _, Nat.le_refl _, hm, by omega, by rw [Nat.mul_one]; exact List.take_of_length_le (by simp)⟩⟩
theorem owns_empty (w : World) (e : TypeId) : (w.alloc (.cells #[] e)).ownsRow w.heap.size e 1 (.slice (some ⟨w.heap.size, 0, none⟩) 0 0) 0 [] := owns_built w e #[] (by simp)
theorem owns_below {w w' : World} {base : Nat} {e : TypeId} {size : Nat} {v : Value} {n : Nat} {xs : List Value} (h : w.ownsRow base e size v n xs) (hb : Below w.heap.size w w') : w'.ownsRow base e size v n xs := by
  refine ⟨h.1, ?_⟩
  rcases h.2 with hn | ⟨g, cap, cur, rfl, hB, hg, rest⟩
  · exact .inl hn
  · exact .inr ⟨g, cap, cur, rfl, hB, (hb.block g (Array.getElem?_eq_some_iff.1 hg).1).trans hg, rest⟩
theorem owns_mono {w : World} {B B' : Nat} {e : TypeId} {size : Nat} {v : Value} {n : Nat} {xs : List Value} (h : w.ownsRow B e size v n xs) (hB : B' ≤ B) : w.ownsRow B' e size v n xs := by
  refine ⟨h.1, ?_⟩
  rcases h.2 with hn | ⟨g, cap, cur, rfl, hb, rest⟩
  · exact .inl hn
  · exact .inr ⟨g, cap, cur, rfl, by omega, rest⟩
theorem ints_built (k : IntKind) (w : World) (e : TypeId) (zs : List Int) (hm : zs.length ≤ maxLen) :
    Ints k (w.alloc (.cells (zs.map (Value.int k)).toArray e)) (.slice (some ⟨w.heap.size, 0, none⟩) zs.length zs.length) zs := by
  have h := owns_built w e (zs.map (Value.int k)).toArray (by simpa using hm)
  simp only [List.size_toArray, List.length_map] at h
  exact (Ints.of_owns (n := zs.length) h).1
theorem ints_single (k : IntKind) (w : World) (e : TypeId) (x : Int) :
    Ints k (w.alloc (.cells #[.int k x] e)) (.slice (some ⟨w.heap.size, 0, none⟩) 1 1) [x] := ints_built k w e [x] (by simp [maxLen])
/-- A constant's row, marked behind its last cell. -/
theorem ints_marked (k : IntKind) (w : World) (e : TypeId) (zs : List Int) (hm : zs.length ≤ maxLen) (fr : Nat × Nat) :
    Ints k (w.alloc (.cells (zs.map (Value.int k)).toArray e fr)) (.slice (some ⟨w.heap.size, 0, none⟩) zs.length zs.length) zs := by
  by_cases h0 : zs = []
  · subst h0
    exact .inl ⟨_, 0, rfl, rfl, by simp, by simp⟩
  · refine .inr ⟨w.heap.size, 0, zs.length, rfl, List.length_pos_iff.2 h0, Nat.le_refl _, hm, fun j hj => ?_⟩
    rw [cell_of_row (w.alloc (.cells (zs.map (Value.int k)).toArray e fr)) w.heap.size (0 + j) _ e fr (heap_alloc_new w _)]
    simp [List.getD, hj]
theorem blw_drewN {B : Nat} {a w : World} (h : Below B a w) (n : Nat) : Below B a (w.drewN n) := h.trans ⟨rfl, rfl, rfl, Nat.le_refl _, fun _ _ => rfl⟩
theorem str_app (p q : List Int) : strOfNums (p ++ q) = strOfNums p ++ strOfNums q := by
  apply ByteArray.ext
  rw [ByteArray.data_append]
  unfold strOfNums
  simp
/-- Two strings that are unlike, in the walk's spelling. -/
theorem str_ne {a b : ByteArray} (h : a ≠ b) : (a.toList == b.toList) = false := by
  rw [beq_eq_false_iff_ne, ByteArray.toList_eq, ByteArray.toList_eq]
  exact fun e => h (Go.WideShapes.bytes_inj e)
theorem take_snoc (xs : List Int) (j : Nat) (h : j < xs.length) : xs.take (j + 1) = xs.take j ++ [xs.getD j 0] := by
  rw [List.take_succ_eq_append_getElem h]; simp [List.getD, h]
theorem drop_cons (xs : List Int) (j : Nat) (h : j < xs.length) : xs.drop j = xs.getD j 0 :: xs.drop (j + 1) := by
  rw [List.drop_eq_getElem_cons h]; simp [List.getD, h]

theorem Ints.opened {k : IntKind} {w : World} {a : Option Addr} {n cap : Nat} {xs : List Int} (h : Ints k w (.slice a n cap) xs) (h0 : 0 < xs.length) :
    ∃ b off, a = some ⟨b, off, none⟩ ∧ n = xs.length ∧ xs.length ≤ cap ∧ cap ≤ maxLen ∧ (∀ j, j < xs.length → w.cell? ⟨b, off + j, none⟩ = some (.int k (xs.getD j 0))) := by
  rcases h with ⟨a, cap, hv, rfl, _⟩ | ⟨b, off, cap', hv, _, h1, hm, hc⟩
  · simp at h0
  · injection hv with e1 e2 e3
    subst e1 e2 e3
    exact ⟨b, off, rfl, rfl, h1, hm, hc⟩
theorem Ints.head {k : IntKind} {w : World} {b off cap j : Nat} {xs : List Int} (hj : j ≤ xs.length) (h1 : xs.length ≤ cap) (hm : cap ≤ maxLen)
    (hc : ∀ j, j < xs.length → w.cell? ⟨b, off + j, none⟩ = some (.int k (xs.getD j 0))) : Ints k w (.slice (some ⟨b, off, none⟩) j cap) (xs.take j) := by
  have hl : (xs.take j).length = j := by rw [List.length_take]; omega
  by_cases h0 : j = 0
  · subst h0
    exact .inl ⟨_, cap, rfl, by simp, hm, by simp⟩
  · refine .inr ⟨b, off, cap, by rw [hl], by omega, by omega, hm, fun i hi => ?_⟩
    rw [hl] at hi
    rw [hc i (by omega)]
    simp [List.getD, hi]
theorem Ints.cut {k : IntKind} {w : World} {b off cap j : Nat} {xs : List Int} (hj : j < xs.length) (h1 : xs.length ≤ cap) (hm : cap ≤ maxLen)
    (hc : ∀ j, j < xs.length → w.cell? ⟨b, off + j, none⟩ = some (.int k (xs.getD j 0))) : Ints k w (.slice (some ⟨b, off + j, none⟩) (xs.length - j) (cap - j)) (xs.drop j) := by
  refine .inr ⟨b, off + j, cap - j, by rw [List.length_drop], by rw [List.length_drop]; omega, by rw [List.length_drop]; omega, by omega, fun i hi => ?_⟩
  rw [List.length_drop] at hi
  have := hc (j + i) (by omega)
  rw [Nat.add_assoc, this]
  simp [List.getD]
/-- A part of a slice, as Go cuts it: at the capacity's end the address stays. -/
theorem Ints.mid {k : IntKind} {w : World} {a : Option Addr} {n cap lo hi : Nat} {xs : List Int} (h : Ints k w (.slice a n cap) xs) (h1 : lo ≤ hi) (h2 : hi ≤ xs.length) :
    (cap = lo → Ints k w (.slice a (hi - lo) 0) ((xs.take hi).drop lo)) ∧ (¬ cap = lo → Ints k w (.slice (a.map (·.add lo)) (hi - lo) (cap - lo)) ((xs.take hi).drop lo)) := by
  have hl : ((xs.take hi).drop lo).length = hi - lo := by rw [List.length_drop, List.length_take]; omega
  have hcm : cap ≤ maxLen ∧ (a = none → cap = 0) ∧ xs.length ≤ cap := by
    rcases h with ⟨a', cap', hv', hx, hm, hn⟩ | ⟨b, off, cap', hv', _, hc, hm, _⟩
    · injection hv' with e1 e2 e3; subst e1 e3; subst hx; exact ⟨hm, hn, by simp⟩
    · injection hv' with e1 e2 e3; subst e1 e3; exact ⟨hm, by simp, hc⟩
  have he : lo = hi → ∀ a' c, c ≤ maxLen → (a' = none → c = 0) → Ints k w (.slice a' (hi - lo) c) ((xs.take hi).drop lo) := by
    intro he a' c hc hn
    subst he
    exact .inl ⟨a', c, by rw [Nat.sub_self], by apply List.drop_eq_nil_of_le; rw [List.length_take]; omega, hc, hn⟩
  refine ⟨fun hc => he (by omega) _ _ (by omega) (fun _ => rfl), fun hc => ?_⟩
  by_cases h0 : lo = hi
  · refine he h0 _ _ (by omega) (fun hn => ?_)
    have := hcm.2.1 (by simpa using hn)
    omega
  · obtain ⟨b, off, ha, hn, hx, hm, hcc⟩ := h.opened (by omega)
    subst ha
    refine .inr ⟨b, off + lo, cap - lo, ?_, by omega, by omega, by omega, fun j hj => ?_⟩
    · rw [hl, Option.map_some, Go.WideShapes.add_plain]
    · rw [hl] at hj
      rw [Nat.add_assoc, hcc (lo + j) (by omega)]
      simp only [List.getD, List.getElem?_drop, List.getElem?_take]
      rw [if_pos (by omega)]
theorem Ints.tail {k : IntKind} {w : World} {a : Option Addr} {n cap lo : Nat} {xs : List Int} (h : Ints k w (.slice a n cap) xs) (h1 : lo ≤ xs.length) :
    (cap = lo → Ints k w (.slice a (xs.length - lo) 0) (xs.drop lo)) ∧ (¬ cap = lo → Ints k w (.slice (a.map (·.add lo)) (xs.length - lo) (cap - lo)) (xs.drop lo)) := by
  have := Ints.mid h h1 (Nat.le_refl _)
  rwa [List.take_of_length_le (Nat.le_refl _)] at this

/-- make([]T, l, c) of integers. -/
theorem wpList_make_ints {P : Program} (w : World) {ops : Array Oper} {rest : List Oper} {o : Oper} {a : Act} {Q : Exit → Act → World → Prop}
    (hg : o.guard = none) (l c : Operand) (t : TypeId) (hop : o.op = Op.makeSlice t l c)
    (base : Nat) (e : TypeId) (i : TypeInfo) (k : IntKind) (h1 : P.underlying t = some (.slice e)) (h2 : P.info? e = some i) (h3 : i.zero = some (.int k 0)) (h4 : i.size = 1)
    (kl kc : IntKind) (L C : Int) (n m : Nat) (hl : a.eval l = .int kl L) (hc : a.eval c = .int kc C) (hL : L = (n : Int)) (hC : C = (m : Int)) (hnm : n ≤ m) (b2 : i.bytes * m ≤ 281474976710656) (b3 : m ≤ maxLen) (b4 : base ≤ w.heap.size)
    (hK : ∀ w', w'.ownsRow base e 1 (.slice (some ⟨w.heap.size, 0, none⟩) n m) n (List.replicate n (.int k 0)) → w.grownBy w' none → wpList P ops Q rest (a.put o.dst (.slice (some ⟨w.heap.size, 0, none⟩) n m)) w') :
    wpList P ops Q (o :: rest) a w := by
  refine wpList_plain hg fun K hK' => ?_
  subst hL
  subst hC
  have hb' : (i.bytes : Int) * (m : Int) ≤ 281474976710656 := by
    have h : ((i.bytes * m : Nat) : Int) ≤ 281474976710656 := by omega
    rwa [Int.natCast_mul] at h
  have hrun := run_make (P := P) w t e i (.int k 0) h1 h2 h3 kl kc n m (by omega) (by omega) hb' (by unfold maxLen at b3; omega)
  simp only [Int.toNat_natCast, h4, Nat.mul_one] at hrun
  unfold Oper.wp
  simp [execOp, hop, hl, hc, hrun, Result.andThen]
  refine hK' _ _ (hK _ ⟨by simp, .inr ⟨w.heap.size, m, _, rfl, b4, heap_alloc_new w _, hnm, b3, by rw [size_madeCells, Nat.mul_one], ?_⟩⟩ (World.grownBy_alloc w _ none))
  have : (Value.int k 0).cells = #[.int k 0] := rfl
  rw [this, toList_madeCells_one, List.take_replicate, Nat.mul_one, Nat.min_eq_left hnm]

/-- copy(dst, src) of integers, dst the call's own. -/
theorem wpList_copy_ints {P : Program} {w : World} {ops : Array Oper} {rest : List Oper} {o : Oper} {a : Act} {Q : Exit → Act → World → Prop} (hgd : o.guard = none) (d s : Operand) (dT sT : TypeId)
    (ho : o.op = .call { callee := .builtin .copy, args := #[d, s], argTypes := #[dT, sT] }) (elem : TypeId) (hu : P.underlying dT = some (.slice elem)) (hsz : (P.info? elem).map (·.size) = some 1)
    (B : Nat) (k : IntKind) (v u : Value) (n : Nat) (xs : List Value) (ys : List Int) (hown : w.ownsRow B elem 1 v n xs) (hys : Ints k w u ys) (hd : a.eval d = v) (hs : a.eval s = u) (hle : ys.length ≤ n)
    (h : ∀ w', w'.ownsRow B elem 1 v n (ys.map (Value.int k) ++ xs.drop ys.length) → w.grownBy w' v.ownBlock → wpList P ops Q rest (a.put o.dst (goInt ys.length)) w') :
    wpList P ops Q (o :: rest) a w := by
  obtain ⟨sp, scap, rfl⟩ := hys.shape
  by_cases h0 : ys = []
  · subst h0
    obtain ⟨dp, dcap, rfl⟩ : ∃ dp dcap, v = .slice dp n dcap := by
      rcases hown.2 with ⟨rfl, rfl⟩ | ⟨g, cap, cur, rfl, _⟩
      · exact ⟨none, 0, rfl⟩
      · exact ⟨_, _, rfl⟩
    refine wpList_copy_nothing hgd d s dT sT ho elem hu hsz dp sp n dcap 0 scap hd hs (Nat.zero_min _) ?_
    exact h w (by simpa using hown) ⟨rfl, rfl, rfl, Nat.le_refl _, fun _ _ _ => rfl⟩
  · have hpos : 0 < ys.length := List.length_pos_iff.2 h0
    obtain ⟨b, off, rfl, -, hcap, hm, hc⟩ := hys.opened hpos
    rcases hown.2 with ⟨rfl, h0⟩ | ⟨g, cap, cur, rfl, hBg, hg, hnc, hcm, hcs, htake⟩
    · omega
    · refine wpList_copy_own hgd d s dT sT ho elem hu hsz g 0 n cap ⟨b, off, none⟩ ys.length scap hd hs cur elem hg (ys.map (Value.int k)) ?_ ?_ ?_ (ints_cells _) ?_
      · rw [List.length_map]; exact (Nat.min_eq_left hle).symm
      · intro j u hj
        have hjl : j < ys.length := by
          have := (List.getElem?_eq_some_iff.1 hj).1
          simpa using this
        rw [Go.WideShapes.add_plain, hc j hjl]
        simp [List.getD, hjl] at hj ⊢
        exact hj
      · simp; omega
      · have hxl : xs.length = n := by have := hown.1; simp at this; omega
        rw [List.length_map]
        refine h _ ⟨?_, .inr ⟨g, cap, _, rfl, hBg, setRow_heap w g cur _ elem _ hg, hnc, hcm, ?_, ?_⟩⟩ ⟨rfl, rfl, rfl, by simp, fun j _ hj => setRow_other w g j _ (fun e => hj (by simp [Value.ownBlock, e]))⟩
        · simp; omega
        · simp; omega
        · simp only [List.take_zero, List.nil_append, Nat.zero_add, Nat.mul_one] at htake ⊢
          rw [List.take_append, List.take_of_length_le (by simp; omega), List.length_map]
          congr 1
          rw [← List.drop_take, htake]

/-- string([]byte) of whatever slice. -/
theorem conv_str {P : Program} (T S E : TypeId) (hT : P.underlying T = some (.slice E)) (hE : P.underlying E = some (.int .u8)) (hS : P.underlying S = some .string) (v : Value) (bs : List Int) (w : World) (hv : Ints .u8 w v bs) : (convert T S v).run P w = .ok (.string (strOfNums bs)) w := by
  rcases hv with ⟨a, cap, rfl, rfl, hm, ha⟩ | ⟨b, off, cap, rfl, h0, h1, hm, hc⟩
  · cases a with
    | none => exact run_convert_bytes_nil w _ _ hT hE 0 cap _ hS
    | some x =>
      rw [run_convert_bytes_string w _ _ _ _ 0 cap hT hE hS, run_bytesToString w x 0 cap [] (by simpa using run_loadCells_list (P := P) w x [] (by intro j v hj; simp at hj))]
      rfl
  · exact run_convert_bytes_arg w _ _ hT hE b off bs.length cap bs rfl hc _ hS
end Go.Proofs.Ytnggnfhaokkcmaa

/- K2 -/
namespace Go.Proofs.Ytnggnfhaokkcmaa
open Go.RowKit
set_option linter.unusedVariables false

/-- Behind a call that only makes memory: old cells and old marks read as before. -/
theorem bcell {W w1 : World} (hb : Below W.heap.size W w1) : (∀ b o, b < W.heap.size → w1.cell? ⟨b, o, none⟩ = W.cell? ⟨b, o, none⟩) ∧ (∀ b o, b < W.heap.size → w1.frozen? ⟨b, o, none⟩ = W.frozen? ⟨b, o, none⟩) :=
  ⟨fun b o h => hb.cell (p := ⟨b, o, none⟩) h, fun b o h => hb.frozen (p := ⟨b, o, none⟩) h⟩
theorem below_add {B : Nat} {a b c : World} (h : Below B a b) (k : Below b.heap.size b c) (hB : B ≤ b.heap.size) : Below B a c := h.trans (k.mono hB)
end Go.Proofs.Ytnggnfhaokkcmaa

/- Q -/
namespace Go.Proofs.Ytnggnfhaokkcmaa
open Go.RowKit
set_option linter.unusedVariables false

section
variable {P : Program} {ops : Array Oper} {C : World → Prop} {Q : Act → Prop} {a : Act} {o : Oper} {rest : List Oper}
/-- A region that draws its order, whose operations yield one value in every world of a class and stay in the class: walked once, in the text's order. -/
theorem region_class {id : Nat} {Q' : Exit → Act → World → Prop} {w : World} {l : List Oper} (hm : P.follows .mixedOrders = true) (hB : Region.lexB .any l.toArray = true) (hC : C w.drew)
    (h : wpQuiet P l.toArray C (fun a' => ∀ w', C w' → Q' .normal a' w') l a) : (Code.region id l.toArray true).wp P Q' a w :=
  wp_region_quiet hm hB hC (by simpa using h)
/-- Passed over. -/
theorem q_skip (hw : Region.wanted o (yielded ops a.tmps) = false) (k : wpQuiet P ops C Q rest (a.put o.dst undef)) : wpQuiet P ops C Q (o :: rest) a := by
  unfold wpQuiet; rw [hw]; exact k
/-- A value. -/
theorem q_val {v : Value} (hw : Region.wanted o (yielded ops a.tmps) = true) (hv : ∀ w, C w → (execOp a.eval o).run P w = .ok (.value v) w) (k : wpQuiet P ops C Q rest (a.put o.dst v)) : wpQuiet P ops C Q (o :: rest) a := by
  unfold wpQuiet; rw [if_pos hw]
  exact ⟨v, fun w hc => by unfold Oper.quietAt; rw [hv w hc]; exact ⟨rfl, rfl⟩, k⟩
/-- A call of a function by its contract. -/
theorem q_call {v : Value} {f : FuncId} {args : Array Value} (hw : Region.wanted o (yielded ops a.tmps) = true) (hv : ∀ w, C w → (execOp a.eval o).run P w = .ok (.enter f args) w)
    (hc : ∀ w, C w → Calls P f args w fun e w' => e = .returned v ∧ C w') (k : wpQuiet P ops C Q rest (a.put o.dst v)) : wpQuiet P ops C Q (o :: rest) a := by
  unfold wpQuiet; rw [if_pos hw]
  exact ⟨v, fun w h => by unfold Oper.quietAt; rw [hv w h]; exact ⟨rfl, hc w h⟩, k⟩
theorem q_end (h : Q a) : wpQuiet P ops C Q [] a := h
end
end Go.Proofs.Ytnggnfhaokkcmaa

/- A1 -/
namespace Go.Proofs.Ytnggnfhaokkcmaa
open Go.RowKit
set_option linter.unusedVariables false

def mayB (r : Int) : Bool := decide (0 ≤ r ∧ r ≤ 1114111 ∧ ¬ (55296 ≤ r ∧ r ≤ 57343))

theorem rmay_any (r : Int) (w : World) :
    Calls Try.prog 50 #[.int .i32 r] w fun e w' => e = .returned (.bool (mayB r)) ∧ w = w' := by
  have hcases : r < 0 ∨ (0 ≤ r ∧ r < 55296) ∨ (55296 ≤ r ∧ r ≤ 57343) ∨ (57343 < r ∧ r ≤ 1114111) ∨ 1114111 < r := by omega
  rcases hcases with h | ⟨h, h'⟩ | ⟨h, h'⟩ | ⟨h, h'⟩ | h
  all_goals
    first
      | (have hf : mayB r = false := by unfold mayB; rw [decide_eq_false_iff_not]; omega)
      | (have hf : mayB r = true := by unfold mayB; rw [decide_eq_true_iff]; omega)
    rw [hf]; clear hf
    go_enter Try.func50, Try.ntmps50
    go_wp2
    go_ret
    first | exact ⟨rfl, rfl⟩ | exact ⟨ret_bool (by simp <;> omega), rfl⟩
end Go.Proofs.Ytnggnfhaokkcmaa

/- A2 -/
namespace Go.Proofs.Ytnggnfhaokkcmaa
open Go.RowKit
set_option linter.unusedVariables false

end Go.Proofs.Ytnggnfhaokkcmaa

/- A3 -/
namespace Go.Proofs.Ytnggnfhaokkcmaa
open Go.RowKit
set_option linter.unusedVariables false

def sameB (xs ys : List Int) : Bool := decide (xs = ys)

theorem same_ne (xs ys : List Int) (k : Nat) (h1 : k < xs.length) (h2 : k < ys.length) (h : xs.getD k 0 ≠ ys.getD k 0) : sameB xs ys = false := by
  unfold sameB
  rw [decide_eq_false_iff_not]
  rintro rfl
  exact h rfl
theorem same_eq (xs ys : List Int) (h1 : xs.length = ys.length) (h : xs.take xs.length = ys.take xs.length) : sameB xs ys = true := by
  unfold sameB
  rw [decide_eq_true_iff]
  rw [List.take_of_length_le (Nat.le_refl _), h1, List.take_of_length_le (Nat.le_refl _)] at h
  exact h

set_option maxHeartbeats 400000 in
theorem same_any (v1 v2 : Value) (xs ys : List Int) (w : World) (hv1 : Ints .i32 w v1 xs) (hv2 : Ints .i32 w v2 ys) :
    Calls Try.prog 29 #[v1, v2] w fun e w' => e = .returned (.bool (sameB xs ys)) ∧ ∃ n, w' = w.drewN n := by
  have l1 := hv1.len
  have l2 := hv2.len
  by_cases hlen : xs.length = ys.length
  · rcases hv1 with ⟨a, cap, rfl, rfl, hm, _⟩ | ⟨b, off, cap, rfl, h0, h1, hm, hc⟩
    · obtain rfl : ys = [] := List.eq_nil_of_length_eq_zero hlen.symm
      obtain ⟨a2, cap2, rfl⟩ := hv2.shape
      clear hv2 hlen l1 l2
      go_enter Try.func29, Try.ntmps29
      go_wp2
      refine wp_loop_rounds 1 ?_
      rw [rounds_succ]
      go_wp2
      go_ret
      exact ⟨rfl, 0, rfl⟩
    · rcases hv2 with ⟨a, cap2, rfl, rfl, hm2, _⟩ | ⟨b2, off2, cap2, rfl, h02, h12, hm2, hc2⟩
      · simp at hlen; subst hlen; simp at h0
      · have hq : ((xs.length : Int) == ys.length) = true := by rw [hlen]; simp
        have hq2 : ((xs.length : Int) != ys.length) = false := by rw [hlen]; simp
        have HL := Lib.hid hlen
        have hle : xs.length ≤ ys.length := by omega
        unfold maxLen at hm hm2
        clear hlen
        go_enter Try.func29, Try.ntmps29
        go_wp2
        go_loopw [5] (fun i wr => ∃ k n : Nat, k ≤ xs.length ∧ i = .int .i64 k ∧ Hid (xs.take k = ys.take k) ∧ wr = w.drewN n) (fun i _ => xs.length - (intOf i).toNat)
        case atStart => exact ⟨0, 0, Nat.zero_le _, rfl, by simp [Hid], rfl⟩
        case round =>
          obtain ⟨k, n, hk, rfl, ht, rfl⟩ := hrel
          by_cases hlt : k < xs.length
          · have hcx := hc k hlt
            have hcy := hc2 k (by omega)
            clear hc hc2
            have HK : xs.getD k 0 = ys.getD k 0 → Hid (xs.take (k + 1) = ys.take (k + 1)) := fun he => by
              show xs.take (k + 1) = ys.take (k + 1)
              rw [take_snoc xs k hlt, take_snoc ys k (by omega), ht.out, he]
            have HF := same_ne xs ys k hlt (by omega)
            generalize xs.getD k 0 = x at hcx HK HF
            generalize ys.getD k 0 = y at hcy HK HF
            by_cases he : x = y
            · have HT := HK he
              have hq3 : (x != y) = false := by simp [he]
              have hq4 : (x == y) = true := by simp [he]
              clear HK HF he ht
              go_wp2
              go_quiet (fail)
              go_wp2
              go_roundw
              case rel => exact ⟨k + 1, n + nq, by omega, by go_num, HT, rfl⟩
              case measure => simp [intOf]; omega
            · have HT := Lib.hid (HF he)
              have hq3 : (x != y) = true := by simp [he]
              have hq4 : (x == y) = false := by simp [he]
              clear HK HF he ht
              go_wp2
              go_quiet (fail)
              go_wp2
              go_ret
              exact ⟨ret_bool HT.out.symm, n + nq, World.drewN_drewN _ _ _⟩
          · go_wp2
            go_ret
            exact ⟨ret_bool (same_eq xs ys HL.out (by obtain rfl : k = xs.length := by omega
                                                      exact ht.out)).symm, n, rfl⟩
  · have hq : ((xs.length : Int) == ys.length) = false := by simp; omega
    have hq2 : ((xs.length : Int) != ys.length) = true := by simp; omega
    have hf : sameB xs ys = false := by unfold sameB; rw [decide_eq_false_iff_not]; rintro rfl; exact hlen rfl
    obtain ⟨a1, cap1, rfl⟩ := hv1.shape
    obtain ⟨a2, cap2, rfl⟩ := hv2.shape
    rw [hf]
    clear hf hv1 hv2
    go_enter Try.func29, Try.ntmps29
    go_wp2
    go_ret
    exact ⟨rfl, 0, rfl⟩
end Go.Proofs.Ytnggnfhaokkcmaa

/- A4 -/
namespace Go.Proofs.Ytnggnfhaokkcmaa
open Go.RowKit
set_option linter.unusedVariables false

theorem may_range (r : Int) (h : mayB r = true) : 0 ≤ r ∧ r ≤ 1114111 := by
  unfold mayB at h
  rw [decide_eq_true_iff] at h
  omega

theorem info21 : (Try.prog.info? 21).map (fun i => (i.zero, i.size, i.bytes)) = some (some (.int .i32 0), 1, 4) := by kernel_rfl

end Go.Proofs.Ytnggnfhaokkcmaa

/- A5 -/
namespace Go.Proofs.Ytnggnfhaokkcmaa
open Go.RowKit
set_option linter.unusedVariables false

theorem six_any (n : Int) (w : World) (h0 : 0 ≤ n) (h1 : n ≤ 2147483647) :
    Calls Try.prog 67 #[.int .i32 n] w fun e w' => e = .returned (.int .u8 (128 + n % 64)) ∧ w = w' := by
  go_enter Try.func67, Try.ntmps67
  go_wp2
  go_ret
  exact ⟨rfl, rfl⟩

def OnePost (r : Int) (w : World) (e : Ending) (w' : World) : Prop :=
  Below w.heap.size w w' ∧ ∃ g n, e = .returned (.slice (some ⟨g, 0, none⟩) n n) ∧ n = (Lib.encodeRuneZ r).length ∧ w'.ownsRow w.heap.size 5 1 (.slice (some ⟨g, 0, none⟩) n n) n ((Lib.encodeRuneZ r).map (Value.int .u8))

theorem one_end (w : World) (r : Int) (zs : List Int) (h : Lib.encodeRuneZ r = zs) (hl : zs.length ≤ 4) :
    OnePost r w (.returned (.slice (some ⟨w.heap.size, 0, none⟩) zs.length zs.length)) (w.alloc (.cells (zs.map (Value.int .u8)).toArray 5)) := by
  refine ⟨(Below.refl _ _).alloc (Nat.le_refl _) _, w.heap.size, zs.length, rfl, by rw [h], ?_⟩
  have := owns_built w 5 (zs.map (Value.int .u8)).toArray (by simp; unfold maxLen; omega)
  simpa [h] using this

set_option maxHeartbeats 1000000 in
theorem one_any (r : Int) (w : World) (h0 : mayB r = true) :
    Calls Try.prog 66 #[.int .i32 r] w (OnePost r w) := by
  have hr := may_range r h0
  unfold mayB at h0
  rw [decide_eq_true_iff] at h0
  have hcases : r < 128 ∨ (128 ≤ r ∧ r < 2048) ∨ (2048 ≤ r ∧ r < 65536) ∨ 65536 ≤ r := by omega
  rcases hcases with h | ⟨h, h'⟩ | ⟨h, h'⟩ | h
  · have E := one_end w r [r] (Lib.encodeRuneZ_one (by omega) (by omega)) (by simp)
    clear h0
    go_enter Try.func66, Try.ntmps66
    go_wp2
    go_ret
    exact E
  · have E := one_end w r _ (Lib.encodeRuneZ_two (by omega) (by omega)) (by simp)
    clear h0
    go_enter Try.func66, Try.ntmps66
    go_wp2_with (go_at_call 67; refine (six_any _ _ (by omega) (by omega)).mono ?_; rintro e w' ⟨rfl, rfl⟩)
    go_ret
    exact E
  · have E := one_end w r _ (Lib.encodeRuneZ_three (by omega)) (by simp)
    clear h0
    go_enter Try.func66, Try.ntmps66
    go_wp2_with (go_at_call 67; refine (six_any _ _ (by omega) (by omega)).mono ?_; rintro e w' ⟨rfl, rfl⟩)
    go_ret
    exact E
  · have E := one_end w r _ (Lib.encodeRuneZ_four (by omega) (by omega)) (by simp)
    clear h0
    go_enter Try.func66, Try.ntmps66
    go_wp2_with (go_at_call 67; refine (six_any _ _ (by omega) (by omega)).mono ?_; rintro e w' ⟨rfl, rfl⟩)
    go_ret
    exact E
end Go.Proofs.Ytnggnfhaokkcmaa

/- A6 -/
namespace Go.Proofs.Ytnggnfhaokkcmaa
open Go.RowKit
set_option linter.unusedVariables false

end Go.Proofs.Ytnggnfhaokkcmaa

/- M1 -/
namespace Go.Proofs.Ytnggnfhaokkcmaa
open Go.Lib
set_option linter.unusedVariables false

/-- What Read gives: the runes of bytes, or nothing. -/
def readF : Nat → List UInt8 → Option (List Int)
  | 0, l => if l = [] then some [] else none
  | f + 1, l => if l = [] then some [] else if (decodeL l).1 = 65533 ∧ (decodeL l).2 = 1 then none else (readF f (l.drop (decodeL l).2)).map fun t => ((decodeL l).1 : Int) :: t
def readL (l : List UInt8) : Option (List Int) := readF l.length l

theorem readF_nil : ∀ f, readF f [] = some []
  | 0 => rfl
  | _ + 1 => by simp [readF]
theorem readF_fuel : ∀ (n m : Nat) (l : List UInt8), l.length ≤ n → l.length ≤ m → readF n l = readF m l
  | 0, m, l, hn, _ => by
    have : l = [] := List.eq_nil_of_length_eq_zero (by omega)
    subst this
    rw [readF_nil, readF_nil]
  | n + 1, 0, l, _, hm => by
    have : l = [] := List.eq_nil_of_length_eq_zero (by omega)
    subst this
    rw [readF_nil, readF_nil]
  | n + 1, m + 1, l, hn, hm => by
    unfold readF
    by_cases hne : l = []
    · simp [hne]
    · have hw := decodeL_width l
      have hl : 0 < l.length := List.length_pos_iff.2 hne
      rw [if_neg hne, if_neg hne, readF_fuel n m (l.drop (decodeL l).2) (by rw [List.length_drop]; omega) (by rw [List.length_drop]; omega)]
theorem readL_nil : readL [] = some [] := rfl
theorem readL_step (l : List UInt8) (hne : l ≠ []) : readL l = if (decodeL l).1 = 65533 ∧ (decodeL l).2 = 1 then none else (readL (l.drop (decodeL l).2)).map fun t => ((decodeL l).1 : Int) :: t := by
  have hl : 0 < l.length := List.length_pos_iff.2 hne
  have hw := decodeL_width l
  obtain ⟨n, hn⟩ : ∃ n, l.length = n + 1 := ⟨l.length - 1, by omega⟩
  unfold readL
  rw [hn]
  show (if l = [] then some [] else _) = _
  rw [if_neg hne, readF_fuel n (l.drop (decodeL l).2).length _ (by rw [List.length_drop]; omega) (Nat.le_refl _)]

/-- What a round of Read does, in plain words. -/
theorem read_on (L : List UInt8) (pos : Nat) (acc : List Int) (hp : pos < L.length) (hok : ¬ ((decodeL (L.drop pos)).1 = 65533 ∧ (decodeL (L.drop pos)).2 = 1))
    (h : (readL (L.drop pos)).map (fun t => acc ++ t) = readL L) :
    (readL (L.drop (pos + (decodeL (L.drop pos)).2))).map (fun t => (acc ++ [((decodeL (L.drop pos)).1 : Int)]) ++ t) = readL L := by
  have hne : L.drop pos ≠ [] := by
    intro h0
    have := congrArg List.length h0
    simp at this
    omega
  rw [readL_step _ hne, if_neg hok, List.drop_drop] at h
  rw [← h, Option.map_map]
  congr 1
  funext t
  simp
theorem read_off (L : List UInt8) (pos : Nat) (acc : List Int) (hp : pos < L.length) (hok : (decodeL (L.drop pos)).1 = 65533 ∧ (decodeL (L.drop pos)).2 = 1)
    (h : (readL (L.drop pos)).map (fun t => acc ++ t) = readL L) : readL L = none := by
  have hne : L.drop pos ≠ [] := by
    intro h0
    have := congrArg List.length h0
    simp at this
    omega
  rw [readL_step _ hne, if_pos hok] at h
  exact h.symm
theorem read_end (L : List UInt8) (pos : Nat) (acc : List Int) (hp : ¬ pos < L.length) (h : (readL (L.drop pos)).map (fun t => acc ++ t) = readL L) : readL L = some acc := by
  rw [List.drop_eq_nil_of_le (by omega), readL_nil] at h
  simpa using h.symm

/- there and back -/
def mayP (r : Int) : Prop := 0 ≤ r ∧ r ≤ 1114111 ∧ ¬ (55296 ≤ r ∧ r ≤ 57343)
end Go.Proofs.Ytnggnfhaokkcmaa

/- A7 -/
namespace Go.Proofs.Ytnggnfhaokkcmaa
open Go.RowKit
set_option linter.unusedVariables false

/-- The bytes of a row of numbers. -/
def bl (bs : List Int) : List UInt8 := (strOfNums bs).data.toList
theorem bl_len (bs : List Int) : (bl bs).length = bs.length := by simp [bl, strOfNums]

def ReadPost (B : Nat) (bs : List Int) (w : World) (e : Ending) (w' : World) : Prop :=
  Below w.heap.size w w' ∧
  ((∃ rs v n, readL (bl bs) = some rs ∧ e = .returned (.tuple #[v, .int .i64 0]) ∧ w'.ownsRow B 21 1 v n (rs.map (Value.int .i32))) ∨
   (readL (bl bs) = none ∧ e = .returned (.tuple #[.slice none 0 0, .int .i64 3])))

theorem cell_new (w : World) (x : Value) (t : TypeId) : ∀ j u, [x][j]? = some u → (w.alloc (.cells #[x] t)).cell? ((⟨w.heap.size, 0, none⟩ : Addr).add j) = some u := by
  intro j u hj
  match j, hj with
  | 0, hj => simp at hj; subst hj; simp [Addr.add]
end Go.Proofs.Ytnggnfhaokkcmaa

/- A8 -/
namespace Go.Proofs.Ytnggnfhaokkcmaa
open Go.RowKit
set_option linter.unusedVariables false

end Go.Proofs.Ytnggnfhaokkcmaa

/- A9 -/
namespace Go.Proofs.Ytnggnfhaokkcmaa
open Go.RowKit
set_option linter.unusedVariables false

end Go.Proofs.Ytnggnfhaokkcmaa

/- L1 -/
namespace Go.Proofs.Ytnggnfhaokkcmaa
open Go.RowKit
set_option linter.unusedVariables false

end Go.Proofs.Ytnggnfhaokkcmaa

/- M2 -/
namespace Go.Proofs.Ytnggnfhaokkcmaa
open Go.Lib
set_option linter.unusedVariables false

/-- The number after k bytes, of which the first gave h. -/
def rOf (h : Int) (bs : List Int) : Nat → Int
  | 0 => h
  | k + 1 => if k = 0 then h else rOf h bs k * 64 + bs.getD k 0 - 128
def contTo (bs : List Int) (k : Nat) : Prop := ∀ j, 1 ≤ j → j < k → 128 ≤ bs.getD j 0 ∧ bs.getD j 0 ≤ 191
theorem rOf_one (h : Int) (bs : List Int) : rOf h bs 1 = h := by simp [rOf]
theorem rOf_succ (h : Int) (bs : List Int) (k : Nat) (hk : 1 ≤ k) : rOf h bs (k + 1) = rOf h bs k * 64 + bs.getD k 0 - 128 := by
  rw [rOf, if_neg (by omega)]
theorem rOf_two (h : Int) (bs : List Int) : rOf h bs 2 = h * 64 + bs.getD 1 0 - 128 := by rw [rOf_succ h bs 1 (by omega), rOf_one]
theorem rOf_three (h : Int) (bs : List Int) : rOf h bs 3 = (h * 64 + bs.getD 1 0 - 128) * 64 + bs.getD 2 0 - 128 := by rw [rOf_succ h bs 2 (by omega), rOf_two]
theorem rOf_four (h : Int) (bs : List Int) : rOf h bs 4 = ((h * 64 + bs.getD 1 0 - 128) * 64 + bs.getD 2 0 - 128) * 64 + bs.getD 3 0 - 128 := by rw [rOf_succ h bs 3 (by omega), rOf_three]
theorem contTo_succ (bs : List Int) (k : Nat) (h : contTo bs k) (h1 : 128 ≤ bs.getD k 0) (h2 : bs.getD k 0 ≤ 191) : contTo bs (k + 1) := by
  intro j hj hjk
  by_cases e : j = k
  · subst e; exact ⟨h1, h2⟩
  · exact h j hj (by omega)
theorem rOf_bound3 (h : Int) (bs : List Int) (h0 : 0 ≤ h) (h1 : h ≤ 127) (k : Nat) (hk1 : 1 ≤ k) (hk : k ≤ 3) (hc : contTo bs k) : 0 ≤ rOf h bs k ∧ rOf h bs k ≤ 1000000 := by
  have e1 := rOf_one h bs
  have e2 := rOf_two h bs
  have e3 := rOf_three h bs
  have hcases : k = 1 ∨ k = 2 ∨ k = 3 := by omega
  rcases hcases with rfl | rfl | rfl
  · omega
  · have c1 := hc 1 (by omega) (by omega)
    omega
  · have c1 := hc 1 (by omega) (by omega)
    have c2 := hc 2 (by omega) (by omega)
    omega

theorem encLen (r : Int) (h : mayP r) : ((encodeRuneZ r).length = 1 ∧ r < 128) ∨ ((encodeRuneZ r).length = 2 ∧ 128 ≤ r ∧ r < 2048) ∨ ((encodeRuneZ r).length = 3 ∧ 2048 ≤ r ∧ r < 65536) ∨ ((encodeRuneZ r).length = 4 ∧ 65536 ≤ r) := by
  obtain ⟨h0, h1, h2⟩ := h
  have hcases : r < 128 ∨ (128 ≤ r ∧ r < 2048) ∨ (2048 ≤ r ∧ r < 65536) ∨ 65536 ≤ r := by omega
  rcases hcases with h | ⟨h, h'⟩ | ⟨h, h'⟩ | h
  · exact .inl ⟨by rw [encodeRuneZ_one (by omega) (by omega)]; rfl, h⟩
  · exact .inr (.inl ⟨by rw [encodeRuneZ_two (by omega) (by omega)]; rfl, h, h'⟩)
  · exact .inr (.inr (.inl ⟨by rw [encodeRuneZ_three (by omega)]; rfl, h, h'⟩))
  · exact .inr (.inr (.inr ⟨by rw [encodeRuneZ_four (by omega) (by omega)]; rfl, h⟩))

theorem bl_getD (bs : List Int) (j : Nat) (hb : ∀ b ∈ bs, 0 ≤ b ∧ b < 256) : (((bl bs).getD j 0).toNat : Int) = bs.getD j 0 := by
  by_cases hj : j < bs.length
  · have hm : bs[j] ∈ bs := List.getElem_mem hj
    have := hb _ hm
    have e : (bl bs).getD j 0 = UInt8.ofNat (bs[j]).toNat := by
      show (bs.map fun n => UInt8.ofNat n.toNat).getD j 0 = _
      simp [List.getD, hj]
    rw [e]
    simp [List.getD, hj]
    omega
  · have e : (bl bs).getD j 0 = 0 := by
      show (bs.map fun n => UInt8.ofNat n.toNat).getD j 0 = _
      simp [List.getD, hj]
    rw [e]
    simp [List.getD, hj]

/-- What the document's next gives: the decoder's answer, or nothing. -/
def nextGives (bs : List Int) : Int × Int := if (decodeL (bl bs)).1 = 65533 ∧ (decodeL (bl bs)).2 = 1 then (0, 0) else ((decodeL (bl bs)).1, (decodeL (bl bs)).2)

/-- The class of a lead byte: how many bytes, and the first number. -/
def lead (b0 : Int) (n : Nat) (h : Int) : Prop := (b0 < 128 ∧ n = 1 ∧ h = b0) ∨ (192 ≤ b0 ∧ b0 < 224 ∧ n = 2 ∧ h = b0 - 192) ∨ (224 ≤ b0 ∧ b0 < 240 ∧ n = 3 ∧ h = b0 - 224) ∨ (240 ≤ b0 ∧ n = 4 ∧ h = b0 - 240)

set_option maxHeartbeats 2000000 in
theorem next_good (bs : List Int) (hb : ∀ b ∈ bs, 0 ≤ b ∧ b < 256) (hne : 0 < bs.length) (n : Nat) (h : Int) (hl : lead (bs.getD 0 0) n h) (hn : n ≤ bs.length) (hc : contTo bs n)
    (hm : mayP (rOf h bs n)) (he : (encodeRuneZ (rOf h bs n)).length = n) : nextGives bs = (rOf h bs n, (n : Int)) := by
  have g0 := bl_getD bs 0 hb
  have g1 := bl_getD bs 1 hb
  have g2 := bl_getD bs 2 hb
  have g3 := bl_getD bs 3 hb
  have e1 := rOf_one h bs
  have e2 := rOf_two h bs
  have e3 := rOf_three h bs
  have e4 := rOf_four h bs
  have en := encLen _ hm
  have key : decodeL (bl bs) = ((rOf h bs n).toNat, n) := by
    rw [decodeL_N, bl_len]
    generalize ((bl bs).getD 0 0).toNat = b0 at *
    generalize ((bl bs).getD 1 0).toNat = b1 at *
    generalize ((bl bs).getD 2 0).toNat = b2 at *
    generalize ((bl bs).getD 3 0).toNat = b3 at *
    obtain ⟨m0, m1, m2⟩ := hm
    rcases hl with ⟨l1, rfl, l2⟩ | ⟨l1, l3, rfl, l2⟩ | ⟨l1, l3, rfl, l2⟩ | ⟨l1, rfl, l2⟩
    · unfold decodeN
      rw [if_pos (by omega)]
      congr 1
      omega
    · have c1 := hc 1 (by omega) (by omega)
      unfold decodeN
      rw [if_neg (by omega), if_pos (by omega), if_pos (by omega)]
      congr 1
      omega
    · have c1 := hc 1 (by omega) (by omega)
      have c2 := hc 2 (by omega) (by omega)
      unfold decodeN
      rw [if_neg (by omega), if_neg (by omega), if_pos (by omega), if_pos (by omega)]
      congr 1
      omega
    · have c1 := hc 1 (by omega) (by omega)
      have c2 := hc 2 (by omega) (by omega)
      have c3 := hc 3 (by omega) (by omega)
      unfold decodeN
      rw [if_neg (by omega), if_neg (by omega), if_neg (by omega), if_pos (by omega), if_pos (by omega)]
      congr 1
      omega
  unfold nextGives
  rw [key, if_neg]
  · show (((rOf h bs n).toNat : Int), (n : Int)) = _
    rw [Int.toNat_of_nonneg hm.1]
  · rintro ⟨q1, q2⟩
    dsimp only at q1 q2
    omega

theorem next_none_of (bs : List Int) (h : decodeL (bl bs) = (65533, 1)) : nextGives bs = (0, 0) := by
  unfold nextGives
  rw [h, if_pos ⟨rfl, rfl⟩]

/-- A byte from 128 on that leads nothing. -/
theorem next_alone (bs : List Int) (hb : ∀ b ∈ bs, 0 ≤ b ∧ b < 256) (h : 128 ≤ bs.getD 0 0) (h' : bs.getD 0 0 < 192) : nextGives bs = (0, 0) := by
  refine next_none_of bs ?_
  have g0 := bl_getD bs 0 hb
  rw [decodeL_N]
  exact decodeN_cont _ _ _ _ _ (by omega)

set_option maxHeartbeats 2000000 in
/-- Too short, or a byte that does not go on, or a number that may not be, or in another form. -/
theorem next_bad (bs : List Int) (hb : ∀ b ∈ bs, 0 ≤ b ∧ b < 256) (hne : 0 < bs.length) (n : Nat) (h : Int) (hl : lead (bs.getD 0 0) n h)
    (hbad : bs.length < n ∨ (∃ j, 1 ≤ j ∧ j < n ∧ (bs.getD j 0 < 128 ∨ 191 < bs.getD j 0)) ∨ (contTo bs n ∧ (¬ mayP (rOf h bs n) ∨ (encodeRuneZ (rOf h bs n)).length ≠ n))) : nextGives bs = (0, 0) := by
  refine next_none_of bs ?_
  have g0 := bl_getD bs 0 hb
  have g1 := bl_getD bs 1 hb
  have g2 := bl_getD bs 2 hb
  have g3 := bl_getD bs 3 hb
  have e1 := rOf_one h bs
  have e2 := rOf_two h bs
  have e3 := rOf_three h bs
  have e4 := rOf_four h bs
  have k0 := ((bl bs).getD 0 0).toNat_lt
  have k1 := ((bl bs).getD 1 0).toNat_lt
  have k2 := ((bl bs).getD 2 0).toNat_lt
  have k3 := ((bl bs).getD 3 0).toNat_lt
  have en : mayP (rOf h bs n) → _ := encLen (rOf h bs n)
  rw [decodeL_N, bl_len]
  have hbad' : bs.length < n ∨ (1 < n ∧ (bs.getD 1 0 < 128 ∨ 191 < bs.getD 1 0)) ∨ (2 < n ∧ (bs.getD 2 0 < 128 ∨ 191 < bs.getD 2 0)) ∨ (3 < n ∧ (bs.getD 3 0 < 128 ∨ 191 < bs.getD 3 0)) ∨ (contTo bs n ∧ (¬ mayP (rOf h bs n) ∨ (encodeRuneZ (rOf h bs n)).length ≠ n)) := by
    rcases hbad with b | ⟨j, j1, j2, b⟩ | b
    · exact .inl b
    · have hj : j = 1 ∨ j = 2 ∨ j = 3 := by
        rcases hl with ⟨_, rfl, _⟩ | ⟨_, _, rfl, _⟩ | ⟨_, _, rfl, _⟩ | ⟨_, rfl, _⟩ <;> omega
      rcases hj with rfl | rfl | rfl
      · exact .inr (.inl ⟨j2, b⟩)
      · exact .inr (.inr (.inl ⟨j2, b⟩))
      · exact .inr (.inr (.inr (.inl ⟨j2, b⟩)))
    · exact .inr (.inr (.inr (.inr b)))
  clear hbad
  generalize ((bl bs).getD 0 0).toNat = b0 at *
  generalize ((bl bs).getD 1 0).toNat = b1 at *
  generalize ((bl bs).getD 2 0).toNat = b2 at *
  generalize ((bl bs).getD 3 0).toNat = b3 at *
  have hlast : contTo bs n → (∀ j, 1 ≤ j → j < n → 128 ≤ bs.getD j 0 ∧ bs.getD j 0 ≤ 191) := fun h => h
  have hform : (¬ mayP (rOf h bs n) ∨ (encodeRuneZ (rOf h bs n)).length ≠ n) → ((rOf h bs n < 0 ∨ 1114111 < rOf h bs n ∨ (55296 ≤ rOf h bs n ∧ rOf h bs n ≤ 57343)) ∨ (n = 1 ∧ 128 ≤ rOf h bs n) ∨ (n = 2 ∧ (rOf h bs n < 128 ∨ 2048 ≤ rOf h bs n)) ∨ (n = 3 ∧ (rOf h bs n < 2048 ∨ 65536 ≤ rOf h bs n)) ∨ (n = 4 ∧ rOf h bs n < 65536)) := by
    intro hh
    by_cases hm : mayP (rOf h bs n)
    · have h2 := en hm
      obtain ⟨m0, m1, m2⟩ := hm
      have h3 : (encodeRuneZ (rOf h bs n)).length ≠ n := by
        rcases hh with hh | hh
        · exact absurd ⟨m0, m1, m2⟩ hh
        · exact hh
      have hn4 : n = 1 ∨ n = 2 ∨ n = 3 ∨ n = 4 := by
        rcases hl with ⟨_, rfl, _⟩ | ⟨_, _, rfl, _⟩ | ⟨_, _, rfl, _⟩ | ⟨_, rfl, _⟩ <;> omega
      omega
    · left
      unfold mayP at hm
      omega
  rcases hl with ⟨l1, rfl, l2⟩ | ⟨l1, l3, rfl, l2⟩ | ⟨l1, l3, rfl, l2⟩ | ⟨l1, rfl, l2⟩
  · exfalso
    rcases hbad' with b | b | b | b | ⟨b1, b2⟩
    · omega
    · omega
    · omega
    · omega
    · have := hform b2
      omega
  · unfold decodeN
    rcases hbad' with b | b | b | b | ⟨b1, b2⟩
    · repeat' split
      all_goals first | rfl | (exfalso; omega)
    · repeat' split
      all_goals first | rfl | (exfalso; omega)
    · omega
    · omega
    · have c1 := b1 1 (by omega) (by omega)
      have := hform b2
      repeat' split
      all_goals first | rfl | (exfalso; omega)
  · unfold decodeN
    rcases hbad' with b | b | b | b | ⟨b1, b2⟩
    · repeat' split
      all_goals first | rfl | (exfalso; omega)
    · repeat' split
      all_goals first | rfl | (exfalso; omega)
    · repeat' split
      all_goals first | rfl | (exfalso; omega)
    · omega
    · have c1 := b1 1 (by omega) (by omega)
      have c2 := b1 2 (by omega) (by omega)
      have := hform b2
      repeat' split
      all_goals first | rfl | (exfalso; omega)
  · unfold decodeN
    rcases hbad' with b | b | b | b | ⟨b1, b2⟩
    · repeat' split
      all_goals first | rfl | (exfalso; omega)
    · repeat' split
      all_goals first | rfl | (exfalso; omega)
    · repeat' split
      all_goals first | rfl | (exfalso; omega)
    · repeat' split
      all_goals first | rfl | (exfalso; omega)
    · have c1 := b1 1 (by omega) (by omega)
      have c2 := b1 2 (by omega) (by omega)
      have c3 := b1 3 (by omega) (by omega)
      have := hform b2
      repeat' split
      all_goals first | rfl | (exfalso; omega)
end Go.Proofs.Ytnggnfhaokkcmaa

/- A10 -/
namespace Go.Proofs.Ytnggnfhaokkcmaa
open Go.RowKit
set_option linter.unusedVariables false

def NextPost (bs : List Int) (w : World) (e : Ending) (w' : World) : Prop :=
  Below w.heap.size w w' ∧ ∃ a b, nextGives bs = (a, b) ∧ e = .returned (.tuple #[.int .i32 a, .int .i64 b])

theorem mayB_iff (r : Int) : mayB r = true ↔ mayP r := by unfold mayB; rw [decide_eq_true_iff]; rfl

set_option maxHeartbeats 4000000 in
theorem next_any (v : Value) (bs : List Int) (w : World) (hv : Ints .u8 w v bs) (hbb : ∀ b ∈ bs, 0 ≤ b ∧ b < 256) (hpos : 0 < bs.length) (hlen : bs.length ≤ 1048576) :
    Calls Try.prog 64 #[v] w (NextPost bs w) := by
  rcases hv with ⟨a, cap, rfl, rfl, hm, ha⟩ | ⟨b, off, cap, rfl, _, h1, hm, hc⟩
  · simp at hpos
  · unfold maxLen at hm
    have hget : ∀ j, j < bs.length → 0 ≤ bs.getD j 0 ∧ bs.getD j 0 < 256 := fun j hj => by
      have := hbb bs[j] (List.getElem_mem hj)
      simpa [List.getD, hj] using this
    have hx0 := hget 0 hpos
    have hc0 : w.cell? ⟨b, off, none⟩ = some (.int .u8 (bs.getD 0 0)) := hc 0 hpos
    have HBAD := Lib.hid (next_bad bs hbb hpos)
    have HGOOD := Lib.hid (next_good bs hbb hpos)
    have HALONE := Lib.hid (next_alone bs hbb)
    generalize bs.getD 0 0 = x0 at hc0 hx0 HBAD HGOOD HALONE
    have hcases : (128 ≤ x0 ∧ x0 < 192) ∨ (∃ n h, lead x0 n h ∧ 0 ≤ h ∧ h ≤ 127 ∧ 1 ≤ n ∧ n ≤ 4) := by
      by_cases q : 128 ≤ x0 ∧ x0 < 192
      · exact .inl q
      · right
        unfold lead
        by_cases q1 : x0 < 128
        · exact ⟨1, x0, by omega, by omega, by omega, by omega, by omega⟩
        by_cases q2 : x0 < 224
        · exact ⟨2, x0 - 192, by omega, by omega, by omega, by omega, by omega⟩
        by_cases q3 : x0 < 240
        · exact ⟨3, x0 - 224, by omega, by omega, by omega, by omega, by omega⟩
        · exact ⟨4, x0 - 240, by omega, by omega, by omega, by omega, by omega⟩
    rcases hcases with ⟨q1, q2⟩ | ⟨n, h, hl, hh0, hh1, hn1, hn4⟩
    · have HA := Lib.hid (HALONE.out q1 q2)
      clear HALONE HBAD HGOOD hc
      go_enter Try.func64, Try.ntmps64
      go_wp2
      go_ret2
      exact ⟨Below.refl _ _, _, _, HA.out, rfl⟩
    · have HBAD2 := Lib.hid (HBAD.out n h hl)
      have HGOOD2 := Lib.hid (HGOOD.out n h hl)
      clear HBAD HGOOD HALONE
      unfold lead at hl
      rcases hl with ⟨l1, rfl, l2⟩ | ⟨l1, l3, rfl, l2⟩ | ⟨l1, l3, rfl, l2⟩ | ⟨l1, rfl, l2⟩
      · have HL := Lib.hid l2
        subst l2
        have hsh : ¬ bs.length < 1 := by omega
        · go_enter Try.func64, Try.ntmps64
          go_wp2
          go_loop [5, 6] (fun r i => ∃ k : Nat, 1 ≤ k ∧ k ≤ 1 ∧ i = .int .i64 k ∧ r = .int .i32 (rOf (h) bs k) ∧ Hid (contTo bs k)) (fun _ i => 1 - (intOf i).toNat)
          case atStart => exact ⟨1, by omega, by omega, rfl, by rw [rOf_one], fun j h1 h2 => by omega⟩
          case round =>
            obtain ⟨k, hk1, hk, rfl, rfl, hct⟩ := hrel
            by_cases hlt : k < 1
            · exact absurd hlt (by omega)
            · obtain rfl : k = 1 := by omega
              clear hc hget hc0 HL
              cases hmx : mayB (rOf (h) bs 1) with
              | false =>
                have HA := Lib.hid (HBAD2.out (.inr (.inr ⟨hct.out, .inl (fun hm => by rw [(mayB_iff _).2 hm] at hmx; cases hmx)⟩)))
                clear HBAD2 HGOOD2
                go_wp2_with (go_at_call 50; refine (rmay_any _ _).mono ?_; rintro e w' ⟨rfl, rfl⟩)
                go_ret2
                exact ⟨Below.refl _ _, _, _, HA.out, rfl⟩
              | true =>
                have HG := Lib.hid (HGOOD2.out (by omega) hct.out ((mayB_iff _).1 hmx))
                have HB := Lib.hid (fun q => HBAD2.out (.inr (.inr ⟨hct.out, .inr q⟩)))
                clear HBAD2 HGOOD2
                go_wp2_with (first
                  | (go_at_call 50; refine (rmay_any _ _).mono ?_; rintro e w' ⟨rfl, rfl⟩)
                  | (go_at_call 66; refine (one_any _ _ hmx).mono ?_))
                rintro e w0 ⟨hb0, g, m, rfl, hm4, hone⟩
                clear hone
                by_cases hmn : m = 1
                · have HA := Lib.hid (HG.out (by rw [← hm4]; exact hmn))
                  clear HG HB hm4
                  subst hmn
                  go_wp2
                  go_ret2
                  exact ⟨hb0, _, _, HA.out, rfl⟩
                · have HA := Lib.hid (HB.out (by rw [← hm4]; exact hmn))
                  have hq1 : ((m : Int) != 1) = true := by rw [bne_iff_ne]; omega
                  have hq2 : ((m : Int) == 1) = false := by rw [beq_eq_false_iff_ne]; omega
                  clear HG HB hm4
                  go_wp2
                  go_ret2
                  exact ⟨hb0, _, _, HA.out, rfl⟩
      · have HL := Lib.hid l2
        subst l2
        by_cases hsh : bs.length < 2
        · have HA := Lib.hid (HBAD2.out (.inl hsh))
          clear HBAD2 HGOOD2 hc HL
          go_enter Try.func64, Try.ntmps64
          go_wp2
          go_ret2
          exact ⟨Below.refl _ _, _, _, HA.out, rfl⟩
        · go_enter Try.func64, Try.ntmps64
          go_wp2
          go_loop [5, 6] (fun r i => ∃ k : Nat, 1 ≤ k ∧ k ≤ 2 ∧ i = .int .i64 k ∧ r = .int .i32 (rOf (x0 - 192) bs k) ∧ Hid (contTo bs k)) (fun _ i => 2 - (intOf i).toNat)
          case atStart => exact ⟨1, by omega, by omega, rfl, by rw [rOf_one], fun j h1 h2 => by omega⟩
          case round =>
            obtain ⟨k, hk1, hk, rfl, rfl, hct⟩ := hrel
            by_cases hlt : k < 2
            · have hcx := hc k (by omega)
              have hgx := hget k (by omega)
              have hsucc := Lib.hid (rOf_succ (x0 - 192) bs k hk1)
              have hrb := rOf_bound3 (x0 - 192) bs hh0 hh1 k hk1 (by omega) hct.out
              have HC := Lib.hid (contTo_succ bs k hct.out)
              have HB := Lib.hid (fun q => HBAD2.out (.inr (.inl ⟨k, hk1, hlt, q⟩)))
              generalize bs.getD k 0 = y at hcx hgx hsucc HC HB
              clear hc hget HBAD2 HGOOD2 hc0 HL
              by_cases y1 : y < 128
              · have HA := Lib.hid (HB.out (.inl y1))
                clear HB HC hsucc
                go_wp2
                go_ret2
                exact ⟨Below.refl _ _, _, _, HA.out, rfl⟩
              by_cases y2 : 191 < y
              · have HA := Lib.hid (HB.out (.inr y2))
                clear HB HC hsucc
                go_wp2
                go_ret2
                exact ⟨Below.refl _ _, _, _, HA.out, rfl⟩
              · have HC2 := Lib.hid (HC.out (by omega) (by omega))
                clear HB HC
                go_wp2
                go_round
                case rel => exact ⟨k + 1, by omega, by omega, by go_num, by rw [hsucc.out], HC2.out⟩
                case measure => simp [intOf]; omega
            · obtain rfl : k = 2 := by omega
              clear hc hget hc0 HL
              cases hmx : mayB (rOf (x0 - 192) bs 2) with
              | false =>
                have HA := Lib.hid (HBAD2.out (.inr (.inr ⟨hct.out, .inl (fun hm => by rw [(mayB_iff _).2 hm] at hmx; cases hmx)⟩)))
                clear HBAD2 HGOOD2
                go_wp2_with (go_at_call 50; refine (rmay_any _ _).mono ?_; rintro e w' ⟨rfl, rfl⟩)
                go_ret2
                exact ⟨Below.refl _ _, _, _, HA.out, rfl⟩
              | true =>
                have HG := Lib.hid (HGOOD2.out (by omega) hct.out ((mayB_iff _).1 hmx))
                have HB := Lib.hid (fun q => HBAD2.out (.inr (.inr ⟨hct.out, .inr q⟩)))
                clear HBAD2 HGOOD2
                go_wp2_with (first
                  | (go_at_call 50; refine (rmay_any _ _).mono ?_; rintro e w' ⟨rfl, rfl⟩)
                  | (go_at_call 66; refine (one_any _ _ hmx).mono ?_))
                rintro e w0 ⟨hb0, g, m, rfl, hm4, hone⟩
                clear hone
                by_cases hmn : m = 2
                · have HA := Lib.hid (HG.out (by rw [← hm4]; exact hmn))
                  clear HG HB hm4
                  subst hmn
                  go_wp2
                  go_ret2
                  exact ⟨hb0, _, _, HA.out, rfl⟩
                · have HA := Lib.hid (HB.out (by rw [← hm4]; exact hmn))
                  have hq1 : ((m : Int) != 2) = true := by rw [bne_iff_ne]; omega
                  have hq2 : ((m : Int) == 2) = false := by rw [beq_eq_false_iff_ne]; omega
                  clear HG HB hm4
                  go_wp2
                  go_ret2
                  exact ⟨hb0, _, _, HA.out, rfl⟩
      · have HL := Lib.hid l2
        subst l2
        by_cases hsh : bs.length < 3
        · have HA := Lib.hid (HBAD2.out (.inl hsh))
          clear HBAD2 HGOOD2 hc HL
          go_enter Try.func64, Try.ntmps64
          go_wp2
          go_ret2
          exact ⟨Below.refl _ _, _, _, HA.out, rfl⟩
        · go_enter Try.func64, Try.ntmps64
          go_wp2
          go_loop [5, 6] (fun r i => ∃ k : Nat, 1 ≤ k ∧ k ≤ 3 ∧ i = .int .i64 k ∧ r = .int .i32 (rOf (x0 - 224) bs k) ∧ Hid (contTo bs k)) (fun _ i => 3 - (intOf i).toNat)
          case atStart => exact ⟨1, by omega, by omega, rfl, by rw [rOf_one], fun j h1 h2 => by omega⟩
          case round =>
            obtain ⟨k, hk1, hk, rfl, rfl, hct⟩ := hrel
            by_cases hlt : k < 3
            · have hcx := hc k (by omega)
              have hgx := hget k (by omega)
              have hsucc := Lib.hid (rOf_succ (x0 - 224) bs k hk1)
              have hrb := rOf_bound3 (x0 - 224) bs hh0 hh1 k hk1 (by omega) hct.out
              have HC := Lib.hid (contTo_succ bs k hct.out)
              have HB := Lib.hid (fun q => HBAD2.out (.inr (.inl ⟨k, hk1, hlt, q⟩)))
              generalize bs.getD k 0 = y at hcx hgx hsucc HC HB
              clear hc hget HBAD2 HGOOD2 hc0 HL
              by_cases y1 : y < 128
              · have HA := Lib.hid (HB.out (.inl y1))
                clear HB HC hsucc
                go_wp2
                go_ret2
                exact ⟨Below.refl _ _, _, _, HA.out, rfl⟩
              by_cases y2 : 191 < y
              · have HA := Lib.hid (HB.out (.inr y2))
                clear HB HC hsucc
                go_wp2
                go_ret2
                exact ⟨Below.refl _ _, _, _, HA.out, rfl⟩
              · have HC2 := Lib.hid (HC.out (by omega) (by omega))
                clear HB HC
                go_wp2
                go_round
                case rel => exact ⟨k + 1, by omega, by omega, by go_num, by rw [hsucc.out], HC2.out⟩
                case measure => simp [intOf]; omega
            · obtain rfl : k = 3 := by omega
              clear hc hget hc0 HL
              cases hmx : mayB (rOf (x0 - 224) bs 3) with
              | false =>
                have HA := Lib.hid (HBAD2.out (.inr (.inr ⟨hct.out, .inl (fun hm => by rw [(mayB_iff _).2 hm] at hmx; cases hmx)⟩)))
                clear HBAD2 HGOOD2
                go_wp2_with (go_at_call 50; refine (rmay_any _ _).mono ?_; rintro e w' ⟨rfl, rfl⟩)
                go_ret2
                exact ⟨Below.refl _ _, _, _, HA.out, rfl⟩
              | true =>
                have HG := Lib.hid (HGOOD2.out (by omega) hct.out ((mayB_iff _).1 hmx))
                have HB := Lib.hid (fun q => HBAD2.out (.inr (.inr ⟨hct.out, .inr q⟩)))
                clear HBAD2 HGOOD2
                go_wp2_with (first
                  | (go_at_call 50; refine (rmay_any _ _).mono ?_; rintro e w' ⟨rfl, rfl⟩)
                  | (go_at_call 66; refine (one_any _ _ hmx).mono ?_))
                rintro e w0 ⟨hb0, g, m, rfl, hm4, hone⟩
                clear hone
                by_cases hmn : m = 3
                · have HA := Lib.hid (HG.out (by rw [← hm4]; exact hmn))
                  clear HG HB hm4
                  subst hmn
                  go_wp2
                  go_ret2
                  exact ⟨hb0, _, _, HA.out, rfl⟩
                · have HA := Lib.hid (HB.out (by rw [← hm4]; exact hmn))
                  have hq1 : ((m : Int) != 3) = true := by rw [bne_iff_ne]; omega
                  have hq2 : ((m : Int) == 3) = false := by rw [beq_eq_false_iff_ne]; omega
                  clear HG HB hm4
                  go_wp2
                  go_ret2
                  exact ⟨hb0, _, _, HA.out, rfl⟩
      · have HL := Lib.hid l2
        subst l2
        by_cases hsh : bs.length < 4
        · have HA := Lib.hid (HBAD2.out (.inl hsh))
          clear HBAD2 HGOOD2 hc HL
          go_enter Try.func64, Try.ntmps64
          go_wp2
          go_ret2
          exact ⟨Below.refl _ _, _, _, HA.out, rfl⟩
        · go_enter Try.func64, Try.ntmps64
          go_wp2
          go_loop [5, 6] (fun r i => ∃ k : Nat, 1 ≤ k ∧ k ≤ 4 ∧ i = .int .i64 k ∧ r = .int .i32 (rOf (x0 - 240) bs k) ∧ Hid (contTo bs k)) (fun _ i => 4 - (intOf i).toNat)
          case atStart => exact ⟨1, by omega, by omega, rfl, by rw [rOf_one], fun j h1 h2 => by omega⟩
          case round =>
            obtain ⟨k, hk1, hk, rfl, rfl, hct⟩ := hrel
            by_cases hlt : k < 4
            · have hcx := hc k (by omega)
              have hgx := hget k (by omega)
              have hsucc := Lib.hid (rOf_succ (x0 - 240) bs k hk1)
              have hrb := rOf_bound3 (x0 - 240) bs hh0 hh1 k hk1 (by omega) hct.out
              have HC := Lib.hid (contTo_succ bs k hct.out)
              have HB := Lib.hid (fun q => HBAD2.out (.inr (.inl ⟨k, hk1, hlt, q⟩)))
              generalize bs.getD k 0 = y at hcx hgx hsucc HC HB
              clear hc hget HBAD2 HGOOD2 hc0 HL
              by_cases y1 : y < 128
              · have HA := Lib.hid (HB.out (.inl y1))
                clear HB HC hsucc
                go_wp2
                go_ret2
                exact ⟨Below.refl _ _, _, _, HA.out, rfl⟩
              by_cases y2 : 191 < y
              · have HA := Lib.hid (HB.out (.inr y2))
                clear HB HC hsucc
                go_wp2
                go_ret2
                exact ⟨Below.refl _ _, _, _, HA.out, rfl⟩
              · have HC2 := Lib.hid (HC.out (by omega) (by omega))
                clear HB HC
                go_wp2
                go_round
                case rel => exact ⟨k + 1, by omega, by omega, by go_num, by rw [hsucc.out], HC2.out⟩
                case measure => simp [intOf]; omega
            · obtain rfl : k = 4 := by omega
              clear hc hget hc0 HL
              cases hmx : mayB (rOf (x0 - 240) bs 4) with
              | false =>
                have HA := Lib.hid (HBAD2.out (.inr (.inr ⟨hct.out, .inl (fun hm => by rw [(mayB_iff _).2 hm] at hmx; cases hmx)⟩)))
                clear HBAD2 HGOOD2
                go_wp2_with (go_at_call 50; refine (rmay_any _ _).mono ?_; rintro e w' ⟨rfl, rfl⟩)
                go_ret2
                exact ⟨Below.refl _ _, _, _, HA.out, rfl⟩
              | true =>
                have HG := Lib.hid (HGOOD2.out (by omega) hct.out ((mayB_iff _).1 hmx))
                have HB := Lib.hid (fun q => HBAD2.out (.inr (.inr ⟨hct.out, .inr q⟩)))
                clear HBAD2 HGOOD2
                go_wp2_with (first
                  | (go_at_call 50; refine (rmay_any _ _).mono ?_; rintro e w' ⟨rfl, rfl⟩)
                  | (go_at_call 66; refine (one_any _ _ hmx).mono ?_))
                rintro e w0 ⟨hb0, g, m, rfl, hm4, hone⟩
                clear hone
                by_cases hmn : m = 4
                · have HA := Lib.hid (HG.out (by rw [← hm4]; exact hmn))
                  clear HG HB hm4
                  subst hmn
                  go_wp2
                  go_ret2
                  exact ⟨hb0, _, _, HA.out, rfl⟩
                · have HA := Lib.hid (HB.out (by rw [← hm4]; exact hmn))
                  have hq1 : ((m : Int) != 4) = true := by rw [bne_iff_ne]; omega
                  have hq2 : ((m : Int) == 4) = false := by rw [beq_eq_false_iff_ne]; omega
                  clear HG HB hm4
                  go_wp2
                  go_ret2
                  exact ⟨hb0, _, _, HA.out, rfl⟩
end Go.Proofs.Ytnggnfhaokkcmaa

/- A11 -/
namespace Go.Proofs.Ytnggnfhaokkcmaa
open Go.RowKit
set_option linter.unusedVariables false

theorem bl_drop (bs : List Int) (k : Nat) : bl (bs.drop k) = (bl bs).drop k := by
  show (bs.drop k).map (fun n => UInt8.ofNat n.toNat) = (bs.map fun n => UInt8.ofNat n.toNat).drop k
  rw [List.map_drop]

theorem next_facts {bs : List Int} {pos : Nat} {acc : List Int} {a c : Int} (hp : pos < bs.length) (hacc : (readL ((bl bs).drop pos)).map (fun t => acc ++ t) = readL (bl bs)) (h : nextGives (bs.drop pos) = (a, c)) :
    (c = 0 ∧ readL (bl bs) = none) ∨ (∃ wd : Nat, c = (wd : Int) ∧ 1 ≤ wd ∧ pos + wd ≤ bs.length ∧ 0 ≤ a ∧ a ≤ 1114111 ∧ (readL ((bl bs).drop (pos + wd))).map (fun t => (acc ++ [a]) ++ t) = readL (bl bs)) := by
  unfold nextGives at h
  rw [bl_drop] at h
  have hpl : pos < (bl bs).length := by rw [bl_len]; exact hp
  have hne : (bl bs).drop pos ≠ [] := by
    intro h0
    have := congrArg List.length h0
    rw [List.length_drop, List.length_nil] at this
    omega
  have hw := Lib.decodeL_width ((bl bs).drop pos)
  have hwl := Lib.decodeL_le _ hne
  have hr := Lib.decodeL_rune ((bl bs).drop pos)
  rw [List.length_drop, bl_len] at hwl
  split at h
  · rename_i hv
    obtain ⟨rfl, rfl⟩ := Prod.mk.inj h
    exact .inl ⟨rfl, read_off _ _ _ hpl hv hacc⟩
  · rename_i hv
    obtain ⟨rfl, rfl⟩ := Prod.mk.inj h
    exact .inr ⟨_, rfl, hw, by omega, by omega, by omega, read_on _ _ _ hpl hv hacc⟩

set_option maxHeartbeats 4000000 in
theorem rread_any (v : Value) (bs : List Int) (w : World) (hv : Ints .u8 w v bs) (hbb : ∀ b ∈ bs, 0 ≤ b ∧ b < 256) (hlen : bs.length ≤ 1048576) :
    Calls Try.prog 62 #[v] w (ReadPost w.heap.size bs w) := by
  obtain ⟨i0, hi, hz0, hz1, hz2⟩ := info_parts info21
  rcases hv with ⟨a, cap, rfl, rfl, hm, ha⟩ | ⟨b, off, cap, rfl, h0, h1, hm, hc⟩
  · go_enter Try.func62, Try.ntmps62
    go_wp2
    refine wp_loop_rounds 1 ?_
    rw [rounds_succ]
    go_wp2
    go_ret2
    exact ⟨Below.refl _ _, .inl ⟨[], _, _, rfl, rfl, World.ownsRow_nil _ _ _ _⟩⟩
  · have hmm := hm
    unfold maxLen at hm
    obtain ⟨B, hB⟩ : ∃ B, w.heap.size = B := ⟨_, rfl⟩
    have hbB : b < B := hB ▸ World.block_lt_of_cell? w _ (hc 0 h0)
    have HB := Lib.hid hB
    rw [hB]
    have hBle : B ≤ w.heap.size := by omega
    clear hB
    go_enter Try.func62, Try.ntmps62
    go_wp2
    go_loopw [4, 5] (fun v i wr => ∃ (pos : Nat) (acc : List Int) (n : Nat), i = .int .i64 pos ∧ wr.ownsRow B 21 1 v n (acc.map (Value.int .i32)) ∧ Below B w wr ∧ Hid ((readL ((bl bs).drop pos)).map (fun t => acc ++ t) = readL (bl bs)) ∧ acc.length ≤ pos ∧ pos ≤ bs.length) (fun _ i _ => bs.length - (intOf i).toNat)
    case atStart => exact ⟨0, [], 0, rfl, World.ownsRow_nil _ _ _ _, Below.refl _ _, by simp [Hid], by simp, by omega⟩
    case round =>
      obtain ⟨pos, acc, n, rfl, hown, hb, hacc, hal, hps⟩ := hrel
      have hsz := hb.size
      have hn : n ≤ 1048576 := by have e := hown.1; simp at e; omega
      by_cases hlt : pos < bs.length
      · have hc' : ∀ j, j < bs.length → wr.cell? ⟨b, off + j, none⟩ = some (.int .u8 (bs.getD j 0)) := fun j hj => (hb.cell (p := ⟨b, off + j, none⟩) hbB).trans (hc j hj)
        have hcut := Ints.cut hlt h1 hmm hc'
        have hbd : ∀ x ∈ bs.drop pos, 0 ≤ x ∧ x < 256 := fun x hx => hbb x (List.mem_of_mem_drop hx)
        have hnext := next_any _ (bs.drop pos) wr hcut hbd (by rw [List.length_drop]; omega) (by rw [List.length_drop]; omega)
        have hcp : pos < cap := by omega
        have hcp2 : ¬ cap = pos := by omega
        have HF := Lib.hid (fun a c => @next_facts bs pos acc a c hlt hacc.out)
        clear hc hc' hcut hbd hbb
        have HN := Lib.hid hnext
        clear hnext
        go_wp2_with (go_at_call 64; refine HN.out.mono ?_)
        rintro e w0 ⟨hb0, a, c, hg, rfl⟩
        have hb2 : Below B w w0 := hb.trans (hb0.mono (by omega))
        have hown0 := owns_below hown hb0
        have hsz0 := hb0.size
        rcases HF.out a c hg with ⟨rfl, hno⟩ | ⟨wd, rfl, hwd, hwl, ha0, ha1, hrel2⟩
        · have HNO := Lib.hid hno
          clear hno hg HF hown hown0
          go_wp2
          go_ret2
          exact ⟨HB.out.symm ▸ hb2, .inr ⟨HNO.out, rfl⟩⟩
        · have HR := Lib.hid hrel2
          have hq1 : ((wd : Int) == 0) = false := by rw [beq_eq_false_iff_ne]; omega
          clear hrel2 hg HF hown
          go_wp2_with (at_builtin; refine wpList_append_own _ rfl _ _ 30 rfl B 21 i0 (.int .i32 0) 1 4 Try.underlying30 hi hz0 hz1 hz2 rfl (by decide) _ _ _ rfl (hown0.alloc _) ⟨w0.heap.size, 0, none⟩ 1 1 [.int .i32 a] rfl rfl (cell_new _ _ _) (by intro u hu; simp at hu; subst hu; rfl) (by unfold maxLen; omega) (by omega) (by simp; omega) ?_; intro v' w1 hown1 hgrow1 _)
          have hb3 : Below B w w1 := (hb2.alloc (by omega) _).grown hgrow1 (by simp; omega) (fun j hj => (hown0.lt j hj).1)
          clear hgrow1 hown0 hb0
          go_wp2
          go_roundw
          case rel => exact ⟨pos + wd, acc ++ [a], n + 1, by go_num, by simpa using hown1, hb3, HR, by simp; omega, hwl⟩
          case measure => simp [intOf]; omega
      · have HR := Lib.hid (read_end (bl bs) pos acc (by rw [bl_len]; exact hlt) hacc.out)
        go_wp2
        go_ret2
        exact ⟨HB.out.symm ▸ hb, .inl ⟨acc, _, _, HR.out, rfl, hown⟩⟩
end Go.Proofs.Ytnggnfhaokkcmaa

/- L2 -/
namespace Go.Proofs.Ytnggnfhaokkcmaa
open Go.RowKit
set_option linter.unusedVariables false

def rOut (bs : List Int) : List Int := (readL (bl bs)).getD []
def rErr (bs : List Int) : Int := if (readL (bl bs)).isSome then 0 else 3

def ROut (bs : List Int) (w : World) (e : Ending) (w' : World) : Prop := Below w.heap.size w w' ∧ ∃ v, e = .returned (.tuple #[v, .int .i64 (rErr bs)]) ∧ Ints .i32 w' v (rOut bs)

theorem read_out {B : Nat} {bs : List Int} {w w' : World} {e : Ending} (h : ReadPost B bs w e w') : ROut bs w e w' := by
  obtain ⟨hb, ⟨rs, v, n, hm, rfl, hown⟩ | ⟨hm, rfl⟩⟩ := h
  · refine ⟨hb, v, by simp [rErr, hm], ?_⟩
    have := (Ints.of_owns hown).1
    simpa [rOut, hm] using this
  · refine ⟨hb, _, by simp [rErr, hm]; rfl, ?_⟩
    simpa [rOut, hm] using ints_nil .i32 w'
end Go.Proofs.Ytnggnfhaokkcmaa

/- Y1 -/
namespace Go.Proofs.Ytnggnfhaokkcmaa
open Go.RowKit
set_option linter.unusedVariables false

/-- A value as the program lays it: kind, number, bits, text. -/
@[reducible] def val (k n f : Int) (s : ByteArray) : Value := .agg #[.int .u8 k, .int .i64 n, .int .u64 f, .string s]
@[reducible] def vcells (k n f : Int) (s : ByteArray) : Array Value := #[.int .u8 k, .int .i64 n, .int .u64 f, .string s]

theorem val_eql (k n f k' n' f' : Int) (s s' : ByteArray) (w : World) :
    (binOp .eql 37 (val k n f s) (val k' n' f' s')).run Try.prog w = .ok (.bool ((k == k') && (n == n') && (f == f') && (s.toList == s'.toList))) w := by
  have hS : Try.prog.underlying 37 = some (.struct (Try.prog.fieldsOf 37)) := by kernel_rfl
  have hp : Try.prog.stoodInHeld 37 = false := by kernel_rfl
  have u1 := Try.underlying5
  have u2 := Try.underlying2
  have u3 := Try.underlying35
  have u4 := Try.underlying9
  have a1 := Try.isAgg5
  have a2 := Try.isAgg2
  have a3 := Try.isAgg35
  have a4 := Try.isAgg9
  have z1 := Try.sizeOf5
  have z2 := Try.sizeOf2
  have z3 := Try.sizeOf35
  have z4 := Try.sizeOf9
  rw [run_eql_struct, show (10000 : Nat) = 9999 + 1 from rfl, run_equalIn_agg w 9999 37 _ _ hS hp]
  simp only [Program.fieldsOf, Try.underlying37]
  go_simp
  by_cases h1 : k = k' <;> by_cases h2 : n = n' <;> by_cases h3 : f = f' <;> by_cases h4 : s.toList = s'.toList <;> simp [h1, h2, h3, h4]

end Go.Proofs.Ytnggnfhaokkcmaa

/- YM1 -/
namespace Go.Proofs.Ytnggnfhaokkcmaa
set_option linter.unusedVariables false

/-- Do the bits say 'no number'? -/
def nanI (f : Int) : Bool := decide (9218868437227405312 < f % 9223372036854775808)
def canonI (f : Int) : Int := if nanI f then 9221120237041090560 else f

end Go.Proofs.Ytnggnfhaokkcmaa

/- Y2 -/
namespace Go.Proofs.Ytnggnfhaokkcmaa
open Go.RowKit
set_option linter.unusedVariables false

theorem none_any (f : Int) (w : World) (h0 : 0 ≤ f) (h1 : f < 18446744073709551616) :
    Calls Try.prog 61 #[.int .u64 f] w fun e w' => e = .returned (.bool (nanI f)) ∧ w = w' := by
  go_enter Try.func61, Try.ntmps61
  go_wp2
  go_ret
  exact ⟨ret_bool (by unfold nanI; rfl), rfl⟩

end Go.Proofs.Ytnggnfhaokkcmaa

/- YM2 -/
namespace Go.Proofs.Ytnggnfhaokkcmaa
set_option linter.unusedVariables false

end Go.Proofs.Ytnggnfhaokkcmaa

/- Y3 -/
namespace Go.Proofs.Ytnggnfhaokkcmaa
open Go.RowKit
set_option linter.unusedVariables false

end Go.Proofs.Ytnggnfhaokkcmaa

/- Y4 -/
namespace Go.Proofs.Ytnggnfhaokkcmaa
open Go.RowKit
set_option linter.unusedVariables false

/-- A text's bytes as numbers. -/
def sbytes (s : ByteArray) : List Int := s.data.toList.map fun b => (b.toNat : Int)
theorem sbytes_len (s : ByteArray) : (sbytes s).length = s.size := by unfold sbytes; simp
theorem sbytes_wf (s : ByteArray) : ∀ b ∈ sbytes s, 0 ≤ b ∧ b < 256 := by
  intro b hb
  unfold sbytes at hb
  obtain ⟨x, _, rfl⟩ := List.mem_map.1 hb
  have := UInt8.toNat_lt x
  omega
theorem bytesWorld_below (w : World) (e : TypeId) (s : ByteArray) : Below w.heap.size w (Lib.bytesWorld w e s) :=
  ⟨rfl, rfl, rfl, by rw [Lib.bytesWorld_size]; omega, fun j hj => Lib.bytesWorld_at_old w e s j hj⟩
/-- '[]byte(s)': the bytes, in a row of the call's own. -/
theorem bytes_of (s : ByteArray) (w : World) (h : s.size ≤ 1048576) : ∃ v w1, (convert 9 83 (.string s)).run Try.prog w = .ok v w1 ∧ Ints .u8 w1 v (sbytes s) ∧ Below w.heap.size w w1 := by
  refine ⟨_, _, Lib.run_convert_string_bytes w 9 83 5 s Try.underlying9 Try.underlying83 Try.underlying5, ?_, bytesWorld_below w _ s⟩
  have hm : s.size ≤ maxLen := by unfold maxLen; omega
  have h1 := grownCap_ge w s.size 0 5
  have h2 := grownCap_le_maxLen w s.size 0 5 hm
  by_cases h0 : s.size = 0
  · refine .inl ⟨_, _, by rw [h0], ?_, h2, by simp⟩
    exact List.length_eq_zero_iff.1 (by rw [sbytes_len]; exact h0)
  · refine .inr ⟨_, _, _, by rw [sbytes_len], by rw [sbytes_len]; omega, by rw [sbytes_len]; exact h1, h2, fun j hj => ?_⟩
    rw [sbytes_len] at hj
    rw [Nat.zero_add, Lib.bytesWorld_cell w _ s j hj]
    unfold sbytes
    have : j < s.data.toList.length := by simpa using hj
    simp [List.getD, hj]

/-- May a text be: at most 64 bytes, and they are read. -/
def textB (s : ByteArray) : Bool := decide (s.size ≤ 64) && decide (rErr (sbytes s) = 0)
end Go.Proofs.Ytnggnfhaokkcmaa

/- Y5 -/
namespace Go.Proofs.Ytnggnfhaokkcmaa
open Go.RowKit
set_option linter.unusedVariables false

/-- A value's four cells at a block. -/
@[reducible] def At (B : Nat) (k n f : Int) (s : ByteArray) (w : World) : Prop :=
  w.cell? ⟨B, 0, none⟩ = some (.int .u8 k) ∧ w.cell? ⟨B, 1, none⟩ = some (.int .i64 n) ∧ w.cell? ⟨B, 2, none⟩ = some (.int .u64 f) ∧ w.cell? ⟨B, 3, none⟩ = some (.string s)
theorem At.below {B : Nat} {k n f : Int} {s : ByteArray} {w w' : World} (h : At B k n f s w) (hb : Below w.heap.size w w') : At B k n f s w' := by
  obtain ⟨h0, h1, h2, h3⟩ := h
  exact ⟨by rw [hb.cell (World.block_lt_of_cell? w _ h0)]; exact h0, by rw [hb.cell (World.block_lt_of_cell? w _ h1)]; exact h1, by rw [hb.cell (World.block_lt_of_cell? w _ h2)]; exact h2, by rw [hb.cell (World.block_lt_of_cell? w _ h3)]; exact h3⟩
theorem At.box (k n f : Int) (s : ByteArray) (w : World) (t : TypeId) : At w.heap.size k n f s (w.alloc (.cells (vcells k n f s) t)) := by
  refine ⟨?_, ?_, ?_, ?_⟩ <;> (rw [cell_of_row _ w.heap.size _ _ t (0, 0) (heap_alloc_new w _)]; rfl)

/-- May a value be. -/
def vmay (k n f : Int) (s : ByteArray) : Bool :=
  decide ((k = 1 ∧ (n = 0 ∨ n = 1) ∧ f = 0 ∧ s.size = 0) ∨ (k = 2 ∧ f = 0 ∧ s.size = 0) ∨ (k = 3 ∧ n = 0 ∧ canonI f = f ∧ s.size = 0) ∨ (k = 4 ∧ n = 0 ∧ f = 0 ∧ textB s = true))

theorem empty_iff (s : ByteArray) : s.toList.isEmpty = decide (s.size = 0) := by
  rw [Lib.toList_data]
  obtain ⟨⟨l⟩⟩ := s
  cases l <;> simp [ByteArray.size]

theorem vmay2 (n f : Int) (s : ByteArray) : (f == 0 && s.toList.isEmpty) = vmay 2 n f s := by
  rw [empty_iff]; unfold vmay; rw [Bool.eq_iff_iff]; simp
theorem vmay0 (k n f : Int) (s : ByteArray) (h1 : k ≠ 1) (h2 : k ≠ 2) (h3 : k ≠ 3) (h4 : k ≠ 4) : false = vmay k n f s := by
  unfold vmay; simp [h1, h2, h3, h4]

end Go.Proofs.Ytnggnfhaokkcmaa

/- Y6 -/
namespace Go.Proofs.Ytnggnfhaokkcmaa
open Go.RowKit
set_option linter.unusedVariables false
set_option maxRecDepth 100000

theorem toList_nil (s : ByteArray) : s.toList = [] ↔ s.size = 0 := by
  have h := empty_iff s
  rw [Bool.eq_iff_iff] at h
  simpa using h
theorem canon_iff (f : Int) : canonI f = f ↔ (nanI f = false ∨ f = 9221120237041090560) := by
  unfold canonI
  split
  · rename_i h; rw [h]; simp; exact eq_comm
  · rename_i h; simp at h; simp [h]
theorem rvmay1 (n f : Int) (s : ByteArray) : vmay 1 n f s = (decide (f = 0 ∧ s.toList = []) && (n == 0 || n == 1)) := by
  unfold vmay; rw [Bool.eq_iff_iff]; simp [toList_nil]; constructor
  · rintro ⟨a, b, c⟩; exact ⟨⟨b, c⟩, a⟩
  · rintro ⟨⟨b, c⟩, a⟩; exact ⟨a, b, c⟩
theorem rvmay3 (n f : Int) (s : ByteArray) : vmay 3 n f s = (decide (n = 0 ∧ s.toList = []) && (!nanI f || f == 9221120237041090560)) := by
  unfold vmay; rw [Bool.eq_iff_iff]; simp [toList_nil, canon_iff]; constructor
  · rintro ⟨a, b, c⟩; exact ⟨⟨a, c⟩, b⟩
  · rintro ⟨⟨a, c⟩, b⟩; exact ⟨a, b, c⟩
theorem rvmay4 (n f : Int) (s : ByteArray) : vmay 4 n f s = (decide (n = 0 ∧ f = 0) && decide (s.size ≤ 64) && (rErr (sbytes s) == 0)) := by
  unfold vmay textB; rw [Bool.eq_iff_iff]; simp; constructor
  · rintro ⟨a, b, c, d⟩; exact ⟨⟨⟨a, b⟩, c⟩, d⟩
  · rintro ⟨⟨⟨a, b⟩, c⟩, d⟩; exact ⟨a, b, c, d⟩

theorem rmay_one (n f : Int) (s : ByteArray) (w : World) :
    Calls Try.prog 52 #[val 1 n f s] w fun e w' => e = .returned (.bool (vmay 1 n f s)) ∧ Below w.heap.size w w' := by
  have hq := fun n' f' s' w => val_eql 1 n f 1 n' f' s s' w
  have hB := (Below.refl w.heap.size w).alloc (Nat.le_refl _) (.cells (vcells 1 n f s) 37)
  have HE := Lib.hid (rvmay1 n f s)
  go_enter Try.func52, Try.ntmps52
  go_wp2
  all_goals
    go_ret
    refine ⟨ret_bool ?_, (Below.refl _ _).alloc (Nat.le_refl _) _⟩
    have he := HE.out
    simp_all

theorem rmay_two (n f : Int) (s : ByteArray) (w : World) :
    Calls Try.prog 52 #[val 2 n f s] w fun e w' => e = .returned (.bool (vmay 2 n f s)) ∧ Below w.heap.size w w' := by
  have hq := fun n' f' s' w => val_eql 2 n f 2 n' f' s s' w
  have hB := (Below.refl w.heap.size w).alloc (Nat.le_refl _) (.cells (vcells 2 n f s) 37)
  have HE := Lib.hid (vmay2 n f s)
  go_enter Try.func52, Try.ntmps52
  go_wp2
  go_ret
  exact ⟨ret_bool (by rw [← HE.out]), hB⟩

theorem rmay_three (n f : Int) (s : ByteArray) (w : World) (h0 : 0 ≤ f) (h1 : f < 18446744073709551616) :
    Calls Try.prog 52 #[val 3 n f s] w fun e w' => e = .returned (.bool (vmay 3 n f s)) ∧ Below w.heap.size w w' := by
  have hq := fun n' f' s' w => val_eql 3 n f 3 n' f' s s' w
  have hB := (Below.refl w.heap.size w).alloc (Nat.le_refl _) (.cells (vcells 3 n f s) 37)
  have HE := Lib.hid (rvmay3 n f s)
  have HN := Lib.hid (fun w => none_any f w h0 h1)
  go_enter Try.func52, Try.ntmps52
  go_wp2_with (go_at_call 61; refine (HN.out _).mono ?_; rintro e w' ⟨rfl, rfl⟩)
  all_goals
    go_ret
    refine ⟨ret_bool ?_, (Below.refl _ _).alloc (Nat.le_refl _) _⟩
    have he := HE.out
    simp_all

theorem rmay_other (k n f : Int) (s : ByteArray) (w : World) (h1 : k ≠ 1) (h2 : k ≠ 2) (h3 : k ≠ 3) (h4 : k ≠ 4) :
    Calls Try.prog 52 #[val k n f s] w fun e w' => e = .returned (.bool (vmay k n f s)) ∧ Below w.heap.size w w' := by
  have hB := (Below.refl w.heap.size w).alloc (Nat.le_refl _) (.cells (vcells k n f s) 37)
  have HE := Lib.hid (vmay0 k n f s h1 h2 h3 h4)
  have e1 : (k == 1) = false := by simpa using h1
  have e2 : (k == 2) = false := by simpa using h2
  have e3 : (k == 3) = false := by simpa using h3
  have e4 : (k == 4) = false := by simpa using h4
  go_enter Try.func52, Try.ntmps52
  go_wp2
  go_ret
  exact ⟨ret_bool (by rw [← HE.out]), hB⟩

theorem rmay_four (n f : Int) (s : ByteArray) (w : World) (hs : s.size ≤ 1048576) :
    Calls Try.prog 52 #[val 4 n f s] w fun e w' => e = .returned (.bool (vmay 4 n f s)) ∧ Below w.heap.size w w' := by
  have hq := fun n' f' s' w => val_eql 4 n f 4 n' f' s s' w
  have hB := (Below.refl w.heap.size w).alloc (Nat.le_refl _) (.cells (vcells 4 n f s) 37)
  have hA := At.box 4 n f s w 37
  have HE := Lib.hid (rvmay4 n f s)
  obtain ⟨v, w1, hc, hi, hb⟩ := bytes_of s (w.alloc (.cells (vcells 4 n f s) 37)) hs
  have hA1 := hA.below hb
  have HR := Lib.hid ((rread_any v (sbytes s) w1 hi (sbytes_wf s) (by rw [sbytes_len]; omega)).mono fun e w' h => read_out h)
  clear hi hA hs
  obtain ⟨x, hx⟩ : ∃ x, rErr (sbytes s) = x := ⟨_, rfl⟩
  rw [hx] at HE
  have HX := Lib.hid hx
  clear hx
  go_enter Try.func52, Try.ntmps52
  go_wp2_with (go_at_call 62; refine HR.out.mono ?_; rintro e w2 ⟨hb2, v2, rfl, _⟩; rw [HX.out]; have hA2 := hA1.below hb2)
  all_goals
    go_ret
    refine ⟨ret_bool ?_, hB.trans ((hb.trans (hb2.mono hb.size)).mono (by simp))⟩
    have he := HE.out
    clear HE HX HR hA1 hA2 hb hb2 hB hc hq
    simp_all
    try omega

theorem rvmay_any (k n f : Int) (s : ByteArray) (w : World) (h0 : 0 ≤ f) (h1 : f < 18446744073709551616) (hs : s.size ≤ 1048576) :
    Calls Try.prog 52 #[val k n f s] w fun e w' => e = .returned (.bool (vmay k n f s)) ∧ Below w.heap.size w w' := by
  by_cases e1 : k = 1
  · subst e1; exact rmay_one n f s w
  · by_cases e2 : k = 2
    · subst e2; exact rmay_two n f s w
    · by_cases e3 : k = 3
      · subst e3; exact rmay_three n f s w h0 h1
      · by_cases e4 : k = 4
        · subst e4; exact rmay_four n f s w hs
        · exact rmay_other k n f s w e1 e2 e3 e4
end Go.Proofs.Ytnggnfhaokkcmaa

/- YC -/
namespace Go.Proofs.Ytnggnfhaokkcmaa
open Go.RowKit Go.Shelf
set_option linter.unusedVariables false
set_option maxRecDepth 100000

end Go.Proofs.Ytnggnfhaokkcmaa

/- Y7 -/
namespace Go.Proofs.Ytnggnfhaokkcmaa
open Go.RowKit
set_option linter.unusedVariables false
set_option maxRecDepth 100000

end Go.Proofs.Ytnggnfhaokkcmaa

/- Y8 -/
namespace Go.Proofs.Ytnggnfhaokkcmaa
open Go.RowKit
set_option linter.unusedVariables false
set_option maxRecDepth 100000

end Go.Proofs.Ytnggnfhaokkcmaa

/- Y9 -/
namespace Go.Proofs.Ytnggnfhaokkcmaa
open Go.RowKit
set_option linter.unusedVariables false
set_option maxRecDepth 100000

end Go.Proofs.Ytnggnfhaokkcmaa

/- YV -/
namespace Go.Proofs.Ytnggnfhaokkcmaa
open Go.RowKit Go.ChangeShapes Go.WideShapes Go.Deep
set_option linter.unusedVariables false
set_option maxRecDepth 100000

section
variable {H : Type} {enc : TypeId × Value → H} {w : World} {base : Nat} {spare : Nat → Bool} {held : Bool}
end
end Go.Proofs.Ytnggnfhaokkcmaa

/- S1: keys as plain data -/
namespace Go.Proofs.Ytnggnfhaokkcmaa
open Go.RowKit
set_option linter.unusedVariables false

/-- A key of attributes. -/
structure Key where
  id : Int
  blk : Bool
  kind : Int
  aft : Bool
  bef : Bool
  grp : Int

/-- A key as the program lays it, whole and as its six cells. -/
@[reducible] def kv (k : Key) : Value := .agg #[.int .i64 k.id, .bool k.blk, .int .u8 k.kind, .bool k.aft, .bool k.bef, .int .i64 k.grp]
@[reducible] def kc (k : Key) : List Value := [.int .i64 k.id, .bool k.blk, .int .u8 k.kind, .bool k.aft, .bool k.bef, .int .i64 k.grp]
@[reducible] def noKey : Key := ⟨0, false, 0, false, false, 0⟩
instance : Inhabited Key := ⟨noKey⟩

def keq (a b : Key) : Bool := (a.id == b.id) && (a.blk == b.blk) && (a.kind == b.kind) && (a.aft == b.aft) && (a.bef == b.bef) && (a.grp == b.grp)
theorem keq_iff (a b : Key) : keq a b = true ↔ a = b := by
  obtain ⟨a1, a2, a3, a4, a5, a6⟩ := a
  obtain ⟨b1, b2, b3, b4, b5, b6⟩ := b
  simp [keq]
  constructor
  · rintro ⟨⟨⟨⟨⟨h1, h2⟩, h3⟩, h4⟩, h5⟩, h6⟩; exact ⟨h1, h2, h3, h4, h5, h6⟩
  · rintro ⟨h1, h2, h3, h4, h5, h6⟩; exact ⟨⟨⟨⟨⟨h1, h2⟩, h3⟩, h4⟩, h5⟩, h6⟩
theorem keq_self (a : Key) : keq a a = true := (keq_iff a a).2 rfl

/-- What a key's numbers are within. -/
structure KeyW (k : Key) : Prop where
  id : (Lit.int .i64 k.id).wf = true
  kind : (Lit.int .u8 k.kind).wf = true
  grp : (Lit.int .i64 k.grp).wf = true

/-- The first key with that number. -/
def fnd (ks : List Key) (id : Int) : Option Key := ks.find? (fun k => k.id == id)
theorem fnd_nil (id : Int) : fnd [] id = none := rfl
theorem fnd_cons (x : Key) (r : List Key) (id : Int) : fnd (x :: r) id = if x.id = id then some x else fnd r id := by
  unfold fnd
  rw [List.find?_cons]
  by_cases h : x.id = id
  · simp [h]
  · rw [show (x.id == id) = false by simpa using h, if_neg h]
theorem fnd_some {ks : List Key} {id : Int} {k : Key} (h : fnd ks id = some k) : k ∈ ks ∧ k.id = id := by
  unfold fnd at h
  exact ⟨List.mem_of_find?_eq_some h, by have := List.find?_some h; simpa using this⟩
theorem fnd_none {ks : List Key} {id : Int} : fnd ks id = none ↔ ∀ k ∈ ks, k.id ≠ id := by
  unfold fnd
  simp
theorem fnd_snoc (l : List Key) (x : Key) (id : Int) : fnd (l ++ [x]) id = (fnd l id).or (if x.id = id then some x else none) := by
  unfold fnd
  rw [List.find?_append]
  congr 1
  by_cases h : x.id = id <;> simp [h]

/-- No two keys have one number. -/
def Apart (ks : List Key) : Prop := ks.Pairwise (fun a b => a.id ≠ b.id)
theorem Apart.perm {ks l : List Key} (h : Apart ks) (hp : l.Perm ks) : Apart l :=
  (hp.pairwise_iff (R := fun a b : Key => a.id ≠ b.id) (fun {_ _} h => h.symm)).2 h
theorem fnd_mem {ks : List Key} (hA : Apart ks) {k : Key} (hk : k ∈ ks) : fnd ks k.id = some k := by
  induction ks with
  | nil => cases hk
  | cons x r ih =>
    obtain ⟨h1, h2⟩ := List.pairwise_cons.1 hA
    rw [fnd_cons]
    rcases List.mem_cons.1 hk with rfl | hk
    · rw [if_pos rfl]
    · rw [if_neg (h1 k hk)]; exact ih h2 hk

/-- May a key be. -/
def mayK (k : Key) : Bool := decide (1 ≤ k.id ∧ k.id ≤ 1000 ∧ 1 ≤ k.kind ∧ k.kind ≤ 4 ∧ 0 ≤ k.grp ∧ k.grp ≤ 8 ∧ (k.blk = true ∨ k.grp = 0) ∧ ¬ (k.blk = true ∧ k.bef = true))
/-- Keys that may be, each alone, and no two of one number. -/
def Good (ks : List Key) : Prop := (∀ k ∈ ks, mayK k = true) ∧ Apart ks
def mayKs (ks : List Key) : Prop := ks.length ≤ 64 ∧ Good ks
theorem good_nil : Good [] := ⟨by simp, List.Pairwise.nil⟩
theorem Good.take {ks : List Key} (h : Good ks) (j : Nat) : Good (ks.take j) :=
  ⟨fun k hk => h.1 k (List.mem_of_mem_take hk), h.2.sublist (List.take_sublist _ _)⟩
theorem good_snoc {l : List Key} {k : Key} (h : Good l) (hm : mayK k = true) (hf : fnd l k.id = none) : Good (l ++ [k]) := by
  refine ⟨fun x hx => ?_, ?_⟩
  · rcases List.mem_append.1 hx with hx | hx
    · exact h.1 x hx
    · simp at hx; subst hx; exact hm
  · refine List.pairwise_append.2 ⟨h.2, by simp, fun a ha b hb => ?_⟩
    simp at hb
    subst hb
    exact fnd_none.1 hf a ha
theorem bad_snoc {l : List Key} {k : Key} (h : mayK k = false ∨ (fnd l k.id).isSome = true) : ¬ Good (l ++ [k]) := by
  rintro ⟨h1, h2⟩
  rcases h with h | h
  · have := h1 k (by simp)
    rw [h] at this
    cases this
  · obtain ⟨x, hx⟩ := Option.isSome_iff_exists.1 h
    obtain ⟨m, e⟩ := fnd_some hx
    exact (List.pairwise_append.1 h2).2.2 x m k (by simp) e
theorem ktake_snoc (ks : List Key) (j : Nat) (h : j < ks.length) : ks.take (j + 1) = ks.take j ++ [ks[j]] := by
  rw [List.take_succ_eq_append_getElem h]
theorem good_step {ks : List Key} {j : Nat} (hj : j < ks.length) (h : Good (ks.take j)) (hm : mayK ks[j] = true) (hf : fnd (ks.take j) ks[j].id = none) : Good (ks.take (j + 1)) := by
  rw [ktake_snoc ks j hj]; exact good_snoc h hm hf
theorem bad_step {ks : List Key} {j : Nat} (hj : j < ks.length) (h : mayK ks[j] = false ∨ (fnd (ks.take j) ks[j].id).isSome = true) : ¬ Good ks := fun hg => by
  have := hg.take (j + 1)
  rw [ktake_snoc ks j hj] at this
  exact bad_snoc h this
theorem mayK_range {k : Key} (h : mayK k = true) : 1 ≤ k.id ∧ k.id ≤ 1000 := by
  unfold mayK at h; rw [decide_eq_true_iff] at h; exact ⟨h.1, h.2.1⟩

/-! ### by rising numbers -/
def risingTo (ks : List Key) (n : Nat) : List Key := (List.range n).filterMap fun i : Nat => fnd ks ((i : Int) + 1)
def rising (ks : List Key) : List Key := risingTo ks 1000
theorem risingTo_zero (ks : List Key) : risingTo ks 0 = [] := rfl
theorem risingTo_succ (ks : List Key) (n : Nat) : risingTo ks (n + 1) = risingTo ks n ++ (fnd ks ((n : Int) + 1)).toList := by
  unfold risingTo
  rw [List.range_succ, List.filterMap_append]
  cases h : fnd ks ((n : Int) + 1) <;> simp [h]
theorem risingTo_mem {ks : List Key} {n : Nat} {k : Key} (h : k ∈ risingTo ks n) : k ∈ ks ∧ 1 ≤ k.id ∧ k.id ≤ n := by
  unfold risingTo at h
  obtain ⟨i, hi, hf⟩ := List.mem_filterMap.1 h
  obtain ⟨h1, h2⟩ := fnd_some hf
  have := List.mem_range.1 hi
  exact ⟨h1, by omega, by omega⟩
theorem risingTo_strict (ks : List Key) : ∀ n, (risingTo ks n).Pairwise (fun a b => a.id < b.id)
  | 0 => by simp [risingTo_zero]
  | n + 1 => by
    rw [risingTo_succ]
    refine List.pairwise_append.2 ⟨risingTo_strict ks n, ?_, fun a ha b hb => ?_⟩
    · cases fnd ks ((n : Int) + 1) <;> simp
    · have h1 := (risingTo_mem ha).2.2
      have h2 : fnd ks ((n : Int) + 1) = some b := by simpa using hb
      have := (fnd_some h2).2
      omega
theorem rising_mem {ks : List Key} (h : Good ks) (k : Key) : k ∈ rising ks ↔ k ∈ ks := by
  constructor
  · exact fun hk => (risingTo_mem hk).1
  · intro hk
    have hr := mayK_range (h.1 k hk)
    refine List.mem_filterMap.2 ⟨(k.id - 1).toNat, List.mem_range.2 (by omega), ?_⟩
    have : (((k.id - 1).toNat : Nat) : Int) + 1 = k.id := by omega
    rw [this]
    exact fnd_mem h.2 hk
theorem strict_ext : ∀ (a b : List Key), a.Pairwise (fun x y => x.id < y.id) → b.Pairwise (fun x y => x.id < y.id) → (∀ k, k ∈ a ↔ k ∈ b) → a = b
  | [], [], _, _, _ => rfl
  | [], y :: s, _, _, h => absurd ((h y).2 (by simp)) (by simp)
  | x :: r, [], _, _, h => absurd ((h x).1 (by simp)) (by simp)
  | x :: r, y :: s, ha, hb, h => by
    obtain ⟨a1, a2⟩ := List.pairwise_cons.1 ha
    obtain ⟨b1, b2⟩ := List.pairwise_cons.1 hb
    have hxy : x = y := by
      rcases List.mem_cons.1 ((h x).1 (by simp)) with e | hx
      · exact e
      · rcases List.mem_cons.1 ((h y).2 (by simp)) with e | hy
        · exact e.symm
        · have := b1 x hx
          have := a1 y hy
          omega
    subst hxy
    congr 1
    refine strict_ext r s a2 b2 fun k => ⟨fun hk => ?_, fun hk => ?_⟩
    · rcases List.mem_cons.1 ((h k).1 (by simp [hk])) with e | hk'
      · subst e; have := a1 k hk; omega
      · exact hk'
    · rcases List.mem_cons.1 ((h k).2 (by simp [hk])) with e | hk'
      · subst e; have := b1 k hk; omega
      · exact hk'
/-- Whatever strictly rises and has the same keys is the keys by rising numbers. -/
theorem rising_unique {l ks : List Key} (h : Good ks) (hs : l.Pairwise (fun a b => a.id < b.id)) (hm : ∀ k, k ∈ l ↔ k ∈ ks) : l = rising ks :=
  strict_ext _ _ hs (risingTo_strict ks 1000) fun k => (hm k).trans (rising_mem h k).symm
theorem rising_strict (ks : List Key) : (rising ks).Pairwise (fun a b => a.id < b.id) := risingTo_strict ks 1000
theorem strict_nodup {l : List Key} (h : l.Pairwise (fun a b => a.id < b.id)) : l.Nodup := h.imp fun {a b} hl e => by subst e; omega
theorem apart_nodup {l : List Key} (h : Apart l) : l.Nodup := h.imp fun {a b} hl e => hl (by rw [e])
theorem rising_perm {ks : List Key} (h : Good ks) : (rising ks).Perm ks :=
  (List.perm_ext_iff_of_nodup (strict_nodup (rising_strict ks)) (apart_nodup h.2)).2 (rising_mem h)
theorem rising_length {ks : List Key} (h : Good ks) : (rising ks).length = ks.length := (rising_perm h).length_eq
/-- The order in which keys are handed in is nothing. -/
theorem rising_of_perm {ks l : List Key} (h : Good ks) (hp : l.Perm ks) : rising l = rising ks :=
  rising_unique h (rising_strict l) fun k => (rising_mem ⟨fun x hx => h.1 x (hp.mem_iff.1 hx), Apart.perm h.2 hp⟩ k).trans (hp.mem_iff)
theorem rising_nil : rising [] = [] := rising_unique good_nil List.Pairwise.nil (fun _ => Iff.rfl) |>.symm

/-- The others of a key's group. -/
def grpOf (ks : List Key) (id : Int) : List Int :=
  match fnd ks id with
  | none => []
  | some k => if k.grp = 0 then [] else ((rising ks).filter fun o => o.grp == k.grp && o.id != id).map (·.id)
theorem grpOf_nil (id : Int) : grpOf [] id = [] := rfl
end Go.Proofs.Ytnggnfhaokkcmaa

/- S2: the map -/
namespace Go.Proofs.Ytnggnfhaokkcmaa
open Go.RowKit
set_option linter.unusedVariables false

/-- How a key in a map reads. -/
def keyElem : Value → Option (DataW Key × List MemPlace)
  | .agg cs => match cs.toList with
    | [.int .i64 a, .bool b, .int .u8 c, .bool d, .bool e, .int .i64 f] => some (.held ⟨a, b, c, d, e, f⟩, [])
    | _ => none
  | _ => none
theorem keyElem_mk (k : Key) : keyElem (kv k) = some (.held k, []) := rfl
theorem keyElem_inv {v : Value} {z : DataW Key × List MemPlace} (h : keyElem v = some z) : ∃ k, v = kv k ∧ z = (.held k, []) := by
  unfold keyElem at h
  split at h
  · rename_i cs
    split at h
    · rename_i a b c d e f hcs
      cases h
      refine ⟨⟨a, b, c, d, e, f⟩, ?_, rfl⟩
      have : cs = #[.int .i64 a, .bool b, .int .u8 c, .bool d, .bool e, .int .i64 f] := by
        cases cs; simp at hcs; rw [hcs]
      rw [this]
    · cases h
  · cases h

def datOn (D : DataW Key) (ks : List Key) : DataW Key := ks.foldl (fun D k => D.put (.int .i64 k.id) (.held k)) D
def dat (ks : List Key) : DataW Key := datOn (.map []) ks
theorem dat_nil : dat [] = .map [] := rfl
theorem dat_snoc (ks : List Key) (k : Key) : dat (ks ++ [k]) = (dat ks).put (.int .i64 k.id) (.held k) := by simp [dat, datOn, List.foldl_append]
theorem int_key (n : Int) : WideAt.IsKeyLit (.int .i64 n) := trivial
theorem datOn_isMap : ∀ (ks : List Key) (D : DataW Key), Maps.IsMap D → Maps.IsMap (datOn D ks)
  | [], _, h => h
  | x :: r, D, h => datOn_isMap r _ (h.put _ _)
theorem datOn_has (id : Int) : ∀ (ks : List Key) (D : DataW Key), Maps.IsMap D → Maps.has (datOn D ks) (.int .i64 id) = (Maps.has D (.int .i64 id) || (fnd ks id).isSome)
  | [], D, h => by simp [datOn, fnd_nil]
  | x :: r, D, h => by
    have ih := datOn_has id r (D.put (.int .i64 x.id) (.held x)) (h.put _ _)
    show Maps.has (datOn (D.put (.int .i64 x.id) (.held x)) r) _ = _
    rw [ih, fnd_cons]
    by_cases e : x.id = id
    · subst e
      rw [Maps.has_put_same h (int_key _), if_pos rfl]
      simp
    · rw [Maps.has_put_other (fun h => e (by injection h with _ h; exact h.symm)), if_neg e]
theorem dat_has (ks : List Key) (id : Int) : Maps.has (dat ks) (.int .i64 id) = (fnd ks id).isSome := by
  unfold dat
  rw [datOn_has id ks _ Maps.isMap_empty]
  simp [Maps.has]
theorem datOn_at (id : Int) (z : DataW Key) : ∀ (ks : List Key) (D : DataW Key), Maps.IsMap D → Apart ks → (datOn D ks).atKey (.int .i64 id) z = match fnd ks id with | some k => .held k | none => D.atKey (.int .i64 id) z
  | [], D, _, _ => rfl
  | x :: r, D, h, hA => by
    obtain ⟨a1, a2⟩ := List.pairwise_cons.1 hA
    have ih := datOn_at id z r (D.put (.int .i64 x.id) (.held x)) (h.put _ _) a2
    show (datOn (D.put (.int .i64 x.id) (.held x)) r).atKey _ _ = _
    rw [ih, fnd_cons]
    by_cases e : x.id = id
    · subst e
      have hn : fnd r x.id = none := fnd_none.2 fun k hk => (a1 k hk).symm
      rw [hn, if_pos rfl]
      exact Maps.atKey_put_same h (int_key _) _ _
    · rw [if_neg e]
      cases fnd r id with
      | some k => rfl
      | none => exact Maps.atKey_put_other (fun h => e (by injection h with _ h; exact h.symm)) _ _
theorem dat_at {ks : List Key} (hA : Apart ks) (id : Int) (z : Key) : (dat ks).atKey (.int .i64 id) (.held z) = .held ((fnd ks id).getD z) := by
  unfold dat
  rw [datOn_at id _ ks _ Maps.isMap_empty hA]
  cases fnd ks id <;> rfl
theorem dat_at_some {ks : List Key} (hA : Apart ks) {id : Int} {y : DataW Key} (h : ∀ z, (dat ks).atKey (.int .i64 id) z = y) : ∃ k, fnd ks id = some k ∧ y = .held k := by
  have h1 := h (.map [])
  have h2 := h .nil
  unfold dat at h1 h2
  rw [datOn_at id _ ks _ Maps.isMap_empty hA] at h1 h2
  cases hf : fnd ks id with
  | some k => rw [hf] at h1; exact ⟨k, rfl, h1.symm⟩
  | none =>
    rw [hf] at h1 h2
    have : (DataW.map [] : DataW Key) = .nil := by
      have e1 : (DataW.map [] : DataW Key) = y := h1
      have e2 : (DataW.nil : DataW Key) = y := h2
      rw [e1, e2]
    cases this
theorem datOn_size : ∀ (ks : List Key) (D : DataW Key), Maps.Tidy D → Apart ks → (∀ k ∈ ks, Maps.has D (.int .i64 k.id) = false) → Maps.size (datOn D ks) = Maps.size D + ks.length
  | [], D, _, _, _ => rfl
  | x :: r, D, h, hA, hn => by
    obtain ⟨a1, a2⟩ := List.pairwise_cons.1 hA
    show Maps.size (datOn (D.put (.int .i64 x.id) (.held x)) r) = _
    rw [datOn_size r _ (h.put (int_key _) _) a2 (fun k hk => ?_), Maps.size_put h, hn x (by simp)]
    · simp; omega
    · rw [Maps.has_put_other (fun h => a1 k hk (by injection h with _ h; exact h.symm))]
      exact hn k (by simp [hk])
theorem dat_size {ks : List Key} (hA : Apart ks) : Maps.size (dat ks) = ks.length := by
  unfold dat
  rw [datOn_size ks _ Maps.tidy_empty hA (fun k _ => rfl)]
  simp [Maps.size]
end Go.Proofs.Ytnggnfhaokkcmaa

/- S3: rows of keys -/
namespace Go.Proofs.Ytnggnfhaokkcmaa
open Go.RowKit
set_option linter.unusedVariables false

def flat (ks : List Key) : List Value := ks.flatMap kc
theorem flat_cons (k : Key) (r : List Key) : flat (k :: r) = kc k ++ flat r := rfl
theorem flat_len : ∀ ks : List Key, (flat ks).length = ks.length * 6
  | [] => rfl
  | k :: r => by rw [flat_cons, List.length_append, flat_len r]; simp; omega
theorem flat_get : ∀ (ks : List Key) (j i : Nat) (hj : j < ks.length), i < 6 → (flat ks)[j * 6 + i]? = (kc ks[j])[i]?
  | k :: r, 0, i, _, hi => by
    rw [flat_cons, List.getElem?_append_left (by simp; omega)]
    simp
  | k :: r, j + 1, i, hj, hi => by
    rw [flat_cons, List.getElem?_append_right (by simp; omega)]
    have : (j + 1) * 6 + i - (kc k).length = j * 6 + i := by simp; omega
    rw [this, flat_get r j i (by simpa using hj) hi]
    simp

/-- A key's six cells at a place. -/
@[reducible] def KAt (b o : Nat) (k : Key) (w : World) : Prop :=
  w.cell? ⟨b, o, none⟩ = some (.int .i64 k.id) ∧ w.cell? ⟨b, o + 1, none⟩ = some (.bool k.blk) ∧ w.cell? ⟨b, o + 2, none⟩ = some (.int .u8 k.kind) ∧ w.cell? ⟨b, o + 3, none⟩ = some (.bool k.aft) ∧ w.cell? ⟨b, o + 4, none⟩ = some (.bool k.bef) ∧ w.cell? ⟨b, o + 5, none⟩ = some (.int .i64 k.grp)
/-- .. at a block's head. -/
@[reducible] def KBox (b : Nat) (k : Key) (w : World) : Prop :=
  w.cell? ⟨b, 0, none⟩ = some (.int .i64 k.id) ∧ w.cell? ⟨b, 1, none⟩ = some (.bool k.blk) ∧ w.cell? ⟨b, 2, none⟩ = some (.int .u8 k.kind) ∧ w.cell? ⟨b, 3, none⟩ = some (.bool k.aft) ∧ w.cell? ⟨b, 4, none⟩ = some (.bool k.bef) ∧ w.cell? ⟨b, 5, none⟩ = some (.int .i64 k.grp)
theorem KBox.below {B : Nat} {b : Nat} {k : Key} {w w' : World} (h : KBox b k w) (hb : Below B w w') (hB : b < B) : KBox b k w' := by
  obtain ⟨h0, h1, h2, h3, h4, h5⟩ := h
  exact ⟨(hb.cell (p := ⟨b, _, none⟩) hB).trans h0, (hb.cell (p := ⟨b, _, none⟩) hB).trans h1, (hb.cell (p := ⟨b, _, none⟩) hB).trans h2, (hb.cell (p := ⟨b, _, none⟩) hB).trans h3, (hb.cell (p := ⟨b, _, none⟩) hB).trans h4, (hb.cell (p := ⟨b, _, none⟩) hB).trans h5⟩
theorem KBox.box (k : Key) (w : World) (t : TypeId) : KBox w.heap.size k (w.alloc (.cells (kc k).toArray t)) := by
  refine ⟨?_, ?_, ?_, ?_, ?_, ?_⟩ <;> (rw [cell_of_row _ w.heap.size _ _ t (0, 0) (heap_alloc_new w _)]; rfl)

/-- A slice of keys that reads as ks. -/
def Krow (w : World) (v : Value) (ks : List Key) : Prop :=
  (∃ a cap, v = .slice a 0 cap ∧ ks = [] ∧ cap ≤ maxLen ∧ (a = none → cap = 0)) ∨
  ∃ b off cap, v = .slice (some ⟨b, off, none⟩) ks.length cap ∧ 0 < ks.length ∧ ks.length ≤ cap ∧ cap ≤ maxLen ∧
    (∀ j u, (flat ks)[j]? = some u → w.cell? ⟨b, off + j, none⟩ = some u)
theorem Krow.below {B : Nat} {w w' : World} {v : Value} {ks : List Key} (h : Krow w v ks) (hb : Below B w w') (hB : w.heap.size ≤ B) : Krow w' v ks := by
  rcases h with h | ⟨b, off, cap, rfl, h0, h1, h2, h3⟩
  · exact .inl h
  · refine .inr ⟨b, off, cap, rfl, h0, h1, h2, fun j u hu => ?_⟩
    have := h3 j u hu
    rw [← this]
    exact hb.cell (p := ⟨b, off + j, none⟩) (Nat.lt_of_lt_of_le (World.block_lt_of_cell? w _ this) hB)
theorem Krow.shape {w : World} {v : Value} {ks : List Key} (h : Krow w v ks) : ∃ a cap, v = .slice a ks.length cap := by
  rcases h with ⟨a, cap, rfl, rfl, hm, _⟩ | ⟨b, off, cap, rfl, h0, h1, hm, hc⟩
  · exact ⟨a, cap, rfl⟩
  · exact ⟨_, _, rfl⟩
theorem Krow.len {w : World} {v : Value} {ks : List Key} (h : Krow w v ks) : ks.length ≤ 9223372036854775807 := by
  rcases h with ⟨a, cap, rfl, rfl, _⟩ | ⟨b, off, cap, rfl, h0, h1, h2, h3⟩
  · simp
  · unfold maxLen at h2; omega
theorem Krow.nil (w : World) : Krow w (.slice none 0 0) [] := .inl ⟨none, 0, rfl, rfl, by simp, fun _ => rfl⟩
theorem Krow.opened {w : World} {a : Option Addr} {n cap : Nat} {ks : List Key} (h : Krow w (.slice a n cap) ks) (h0 : 0 < ks.length) :
    ∃ b off, a = some ⟨b, off, none⟩ ∧ n = ks.length ∧ ks.length ≤ cap ∧ cap ≤ maxLen ∧ b < w.heap.size ∧ (∀ j (hj : j < ks.length), KAt b (off + j * 6) ks[j] w) := by
  rcases h with ⟨a, cap, hv, rfl, _⟩ | ⟨b, off, cap', hv, _, h1, hm, hc⟩
  · simp at h0
  · injection hv with e1 e2 e3
    subst e1 e2 e3
    have hat : ∀ j (hj : j < ks.length), KAt b (off + j * 6) ks[j] w := fun j hj => by
      have g := fun i (hi : i < 6) u (hu : (kc ks[j])[i]? = some u) => hc (j * 6 + i) u ((flat_get ks j i hj hi).trans hu)
      refine ⟨?_, ?_, ?_, ?_, ?_, ?_⟩
      · exact g 0 (by omega) _ rfl
      · simpa [Nat.add_assoc] using g 1 (by omega) _ rfl
      · simpa [Nat.add_assoc] using g 2 (by omega) _ rfl
      · simpa [Nat.add_assoc] using g 3 (by omega) _ rfl
      · simpa [Nat.add_assoc] using g 4 (by omega) _ rfl
      · simpa [Nat.add_assoc] using g 5 (by omega) _ rfl
    exact ⟨b, off, rfl, rfl, h1, hm, World.block_lt_of_cell? w _ (hat 0 h0).1, hat⟩
/-- A row that the call owns reads as what it owns. -/
theorem Krow.of_owns {w : World} {base : Nat} {e : TypeId} {v : Value} {n : Nat} {ks : List Key} (h : w.ownsRow base e 6 v n (flat ks)) : Krow w v ks ∧ n = ks.length := by
  have hn : n = ks.length := by have := h.1; rw [flat_len] at this; omega
  subst hn
  refine ⟨?_, rfl⟩
  by_cases hx : ks = []
  · subst hx
    rcases h.2 with ⟨rfl, _⟩ | ⟨g, cap, cur, rfl, hb, hg, hc, hm, _⟩
    · exact .inl ⟨none, 0, rfl, rfl, by simp, fun _ => rfl⟩
    · exact .inl ⟨_, cap, rfl, rfl, hm, by simp⟩
  · have hpos : 0 < ks.length := List.length_pos_iff.2 hx
    rcases h.2 with ⟨rfl, h0⟩ | ⟨g, cap, cur, hv, hb, hg, hc, hm, _⟩
    · omega
    · subst hv
      refine .inr ⟨g, 0, cap, rfl, hpos, hc, hm, fun j u hu => ?_⟩
      have := h.cells (g := g) rfl j u hu
      rw [Go.WideShapes.add_plain] at this
      simpa using this
end Go.Proofs.Ytnggnfhaokkcmaa

/- S4: may -/
namespace Go.Proofs.Ytnggnfhaokkcmaa
open Go.RowKit
set_option linter.unusedVariables false

end Go.Proofs.Ytnggnfhaokkcmaa

/- S6: the reference's Find -/
namespace Go.Proofs.Ytnggnfhaokkcmaa
open Go.RowKit
set_option linter.unusedVariables false

theorem KAt.below {B b o : Nat} {k : Key} {w w' : World} (h : KAt b o k w) (hb : Below B w w') (hB : b < B) : KAt b o k w' := by
  obtain ⟨h0, h1, h2, h3, h4, h5⟩ := h
  exact ⟨(hb.cell (p := ⟨b, _, none⟩) hB).trans h0, (hb.cell (p := ⟨b, _, none⟩) hB).trans h1, (hb.cell (p := ⟨b, _, none⟩) hB).trans h2, (hb.cell (p := ⟨b, _, none⟩) hB).trans h3, (hb.cell (p := ⟨b, _, none⟩) hB).trans h4, (hb.cell (p := ⟨b, _, none⟩) hB).trans h5⟩

@[reducible] def fndV (ks : List Key) (id : Int) : Value := .tuple #[kv ((fnd ks id).getD noKey), .bool (fnd ks id).isSome]

theorem fnd_take_none {ks : List Key} {k : Nat} {id : Int} (h : k < ks.length) (hf : fnd (ks.take k) id = none) (hne : ¬ ks[k].id = id) : fnd (ks.take (k + 1)) id = none := by
  rw [ktake_snoc ks k h, fnd_snoc, hf, if_neg hne]; rfl
theorem fnd_take_some {ks : List Key} {k : Nat} {id : Int} (h : k < ks.length) (hf : fnd (ks.take k) id = none) (he : ks[k].id = id) : fnd ks id = some ks[k] := by
  have h1 : fnd (ks.take (k + 1)) id = some ks[k] := by rw [ktake_snoc ks k h, fnd_snoc, hf, if_pos he]; rfl
  have h2 : fnd (ks.take (k + 1) ++ ks.drop (k + 1)) id = some ks[k] := by
    unfold fnd at h1 ⊢
    rw [List.find?_append, h1]
    rfl
  rwa [List.take_append_drop] at h2
theorem fndV_some {ks : List Key} {id : Int} {k : Key} (h : fnd ks id = some k) : fndV ks id = .tuple #[kv k, .bool true] := by unfold fndV; rw [h]; rfl
theorem fndV_none {ks : List Key} {id : Int} (h : fnd ks id = none) : fndV ks id = .tuple #[kv noKey, .bool false] := by unfold fndV; rw [h]; rfl

set_option maxHeartbeats 400000 in
theorem rfind_any (v : Value) (ks : List Key) (id : Int) (w : World) (hv : Krow w v ks) :
    Calls Try.prog 55 #[v, .int .i64 id] w fun e w' => e = .returned (fndV ks id) ∧ Below w.heap.size w w' := by
  have hl := hv.len
  obtain ⟨a, cap, rfl⟩ := hv.shape
  by_cases h0 : 0 < ks.length
  · obtain ⟨b, off, rfl, -, -, -, hbl, hat⟩ := hv.opened h0
    clear hv
    have hB := (Below.refl w.heap.size w).alloc (Nat.le_refl _) (.cells (kc noKey).toArray 61)
    have hat2 := Lib.hid (fun j (hj : j < ks.length) => (hat j hj).below hB hbl)
    clear hat
    go_enter Try.func55, Try.ntmps55
    go_wp2
    go_loop [6] (fun i => ∃ k : Nat, k ≤ ks.length ∧ i = .int .i64 k ∧ fnd (ks.take k) id = none) (fun i => ks.length - (intOf i).toNat)
    case atStart => exact ⟨0, Nat.zero_le _, rfl, rfl⟩
    case round =>
      obtain ⟨k, hk, rfl, hf⟩ := hrel
      have HF := Lib.hid hf
      clear hf
      by_cases hlt : k < ks.length
      · obtain ⟨c0, c1, c2, c3, c4, c5⟩ := hat2.out k hlt
        by_cases he : ks[k].id = id
        · have HS := Lib.hid (fnd_take_some hlt HF.out he)
          have e1 : (ks[k].id == id) = true := by simpa using he
          clear he
          go_wp2
          exact bodyPost_ret (v := .tuple #[kv ks[k], .bool true]) (by simp [results, Try.results55, go_sem]) rfl ⟨by rw [fndV_some HS.out], (Below.refl _ _).alloc (Nat.le_refl _) _⟩
        · have HN := Lib.hid (fnd_take_none hlt HF.out he)
          have e1 : (ks[k].id == id) = false := by simpa using he
          clear he
          go_wp2
          go_round
          case rel => exact ⟨k + 1, by omega, by go_num, HN.out⟩
          case measure => simp [intOf]; omega
      · have hk2 : k = ks.length := by omega
        have HN : fnd ks id = none := by have := HF.out; rwa [hk2, List.take_of_length_le (Nat.le_refl _)] at this
        have HN := Lib.hid HN
        clear hk2
        go_wp2
        exact bodyPost_ret (v := .tuple #[kv noKey, .bool false]) (by simp [results, Try.results55, go_sem]) rfl ⟨by rw [fndV_none HN.out], (Below.refl _ _).alloc (Nat.le_refl _) _⟩
  · obtain rfl : ks = [] := List.eq_nil_of_length_eq_zero (by omega)
    clear hv hl h0
    go_enter Try.func55, Try.ntmps55
    go_wp2
    refine wp_loop_rounds 1 ?_
    rw [rounds_succ]
    go_wp2
    exact bodyPost_ret (v := .tuple #[kv noKey, .bool false]) (by simp [results, Try.results55, go_sem]) rfl ⟨by rw [fndV_none (fnd_nil id)], (Below.refl _ _).alloc (Nat.le_refl _) _⟩
end Go.Proofs.Ytnggnfhaokkcmaa

/- S7: a schema -/
namespace Go.Proofs.Ytnggnfhaokkcmaa
open Go.RowKit
set_option linter.unusedVariables false

theorem kbelow_two (w : World) (o1 o2 : Obj) : Below w.heap.size w ((w.alloc o1).alloc o2) := ((Below.refl _ _).alloc (Nat.le_refl _) _).alloc (by simp) _

end Go.Proofs.Ytnggnfhaokkcmaa

/- S8: New -/
namespace Go.Proofs.Ytnggnfhaokkcmaa
open Go.RowKit
set_option linter.unusedVariables false

@[reducible] def kca (k : Key) : Array Value := #[.int .i64 k.id, .bool k.blk, .int .u8 k.kind, .bool k.aft, .bool k.bef, .int .i64 k.grp]
end Go.Proofs.Ytnggnfhaokkcmaa

/- S13: the reference's May -/
namespace Go.Proofs.Ytnggnfhaokkcmaa
open Go.RowKit
set_option linter.unusedVariables false

/-- Whether keys may be, told by a bool. -/
def MayPost (ks : List Key) (w : World) (e : Ending) (w' : World) : Prop :=
  Below w.heap.size w w' ∧ ∃ b : Bool, e = .returned (.bool b) ∧ (b = true ↔ mayKs ks)
theorem rmay_bad {ks : List Key} {w w' : World} (hb : Below w.heap.size w w') (h : ¬ mayKs ks) : MayPost ks w (.returned (.bool false)) w' := ⟨hb, false, rfl, by simp [h]⟩
theorem rmay_good {ks : List Key} {w w' : World} (hb : Below w.heap.size w w') (h : mayKs ks) : MayPost ks w (.returned (.bool true)) w' := ⟨hb, true, rfl, by simp [h]⟩
theorem fnd_none_of {ks : List Key} {j : Nat} {id : Int} (hj : j ≤ ks.length) (h : ∀ t (ht : t < ks.length), t < j → ks[t].id ≠ id) : fnd (ks.take j) id = none := by
  refine fnd_none.2 fun k hk => ?_
  obtain ⟨t, ht, rfl⟩ := List.getElem_of_mem hk
  rw [List.length_take] at ht
  rw [List.getElem_take]
  exact h t (by omega) (by omega)
theorem fnd_is_some {ks : List Key} {j t : Nat} {id : Int} (ht : t < ks.length) (hj : t < j) (h : ks[t].id = id) : (fnd (ks.take j) id).isSome = true := by
  cases hf : fnd (ks.take j) id with
  | some k => rfl
  | none =>
    refine absurd h (fnd_none.1 hf _ ?_)
    rw [List.mem_take_iff_getElem]
    exact ⟨t, by omega, rfl⟩

theorem rmay_long (v : Value) (ks : List Key) (w : World) (hv : Krow w v ks) (hl : 64 < ks.length) :
    Calls Try.prog 24 #[v] w (MayPost ks w) := by
  have hb := hv.len
  obtain ⟨a, cap, rfl⟩ := hv.shape
  clear hv
  have hn : ¬ mayKs ks := fun h => by have := h.1; omega
  have hn := Lib.hid hn
  go_enter Try.func24, Try.ntmps24
  go_wp2
  go_ret
  exact rmay_bad (Below.refl _ _) hn.out

theorem rmay_none (v : Value) (w : World) (hv : Krow w v []) :
    Calls Try.prog 24 #[v] w (MayPost [] w) := by
  obtain ⟨a, cap, rfl⟩ := hv.shape
  clear hv
  go_enter Try.func24, Try.ntmps24
  go_wp2
  refine wp_loop_rounds 1 ?_
  rw [rounds_succ]
  go_wp2
  go_ret
  exact rmay_good (Below.refl _ _) ⟨by simp, good_nil⟩

set_option maxRecDepth 100000 in
set_option maxHeartbeats 4000000 in
theorem rmay_some (v : Value) (ks : List Key) (w : World) (hv : Krow w v ks) (hl : ks.length ≤ 64) (h0 : 0 < ks.length) :
    Calls Try.prog 24 #[v] w (MayPost ks w) := by
  obtain ⟨a, cap, rfl⟩ := hv.shape
  obtain ⟨b, off, rfl, -, -, -, hbl, hat⟩ := hv.opened h0
  clear hv
  have hat := Lib.hid hat
  have h11 : decide ((64 : Int) < (ks.length : Int)) = false := by rw [decide_eq_false_iff_not]; omega
  go_enter Try.func24, Try.ntmps24
  go_wp2
  go_loopw [3] (fun i wr => ∃ k : Nat, k ≤ ks.length ∧ i = .int .i64 k ∧ Good (ks.take k) ∧ Below w.heap.size w wr) (fun i _ => ks.length - (intOf i).toNat)
  case atStart => exact ⟨0, Nat.zero_le _, rfl, good_nil, Below.refl _ _⟩
  case round =>
    obtain ⟨k, hk, rfl, hg, hbw⟩ := hrel
    by_cases hlt : k < ks.length
    · have hat2 := Lib.hid (fun t (ht : t < ks.length) => (hat.out t ht).below hbw hbl)
      obtain ⟨c0, c1, c2, c3, c4, c5⟩ := hat2.out k hlt
      have hbad : (fnd (ks.take k) ks[k].id).isSome = true ∨ mayK ks[k] = false → ¬ mayKs ks := fun h hm => bad_step hlt h.symm hm.2
      have hstp := fun h1 h2 => good_step hlt hg h1 h2
      have HIN := Lib.hid (fun (h : ∀ t (ht : t < ks.length), t < k → ks[t].id ≠ ks[k].id) => fnd_none_of (Nat.le_of_lt hlt) h)
      have HIS := Lib.hid (fun (t : Nat) (ht : t < ks.length) (hj : t < k) (h : ks[t].id = ks[k].id) => fnd_is_some ht hj h)
      have HBW := Lib.hid hbw
      clear hg
      generalize ks[k] = o at *
      obtain ⟨x1, x2, x3, x4, x5, x6⟩ := o
      simp only at c0 c1 c2 c3 c4 c5
      have hsz := hbw.size
      have hbW := hbw.alloc hbw.size (.cells #[.int .i64 x1, .bool x2, .int .u8 x3, .bool x4, .bool x5, .int .i64 x6] 61)
      have HBX := Lib.hid hbW
      clear hbw hbW
      have hblr : b < wr.heap.size := by omega
      clear hsz
      by_cases q0 : x1 < 1
      · have d0 : decide (x1 < 1) = true := by simpa using q0
        have HN := Lib.hid (hbad (.inr (by unfold mayK; rw [decide_eq_false_iff_not]; simp only; omega)))
        clear q0 hbad hstp
        go_wp2
        go_ret
        exact rmay_bad HBX.out HN.out
      have d0 : decide (x1 < 1) = false := by simpa using q0
      by_cases q1 : 1000 < x1
      · have d1 : decide (1000 < x1) = true := by simpa using q1
        have HN := Lib.hid (hbad (.inr (by unfold mayK; rw [decide_eq_false_iff_not]; simp only; omega)))
        clear q1 hbad hstp
        clear q0
        go_wp2
        go_ret
        exact rmay_bad HBX.out HN.out
      have d1 : decide (1000 < x1) = false := by simpa using q1
      by_cases q2 : x3 < 1
      · have d2 : decide (x3 < 1) = true := by simpa using q2
        have HN := Lib.hid (hbad (.inr (by unfold mayK; rw [decide_eq_false_iff_not]; simp only; omega)))
        clear q2 hbad hstp
        clear q0
        clear q1
        go_wp2
        go_ret
        exact rmay_bad HBX.out HN.out
      have d2 : decide (x3 < 1) = false := by simpa using q2
      by_cases q3 : 4 < x3
      · have d3 : decide (4 < x3) = true := by simpa using q3
        have HN := Lib.hid (hbad (.inr (by unfold mayK; rw [decide_eq_false_iff_not]; simp only; omega)))
        clear q3 hbad hstp
        clear q0
        clear q1
        clear q2
        go_wp2
        go_ret
        exact rmay_bad HBX.out HN.out
      have d3 : decide (4 < x3) = false := by simpa using q3
      by_cases q4 : x6 < 0
      · have d4 : decide (x6 < 0) = true := by simpa using q4
        have HN := Lib.hid (hbad (.inr (by unfold mayK; rw [decide_eq_false_iff_not]; simp only; omega)))
        clear q4 hbad hstp
        clear q0
        clear q1
        clear q2
        clear q3
        go_wp2
        go_ret
        exact rmay_bad HBX.out HN.out
      have d4 : decide (x6 < 0) = false := by simpa using q4
      by_cases q5 : 8 < x6
      · have d5 : decide (8 < x6) = true := by simpa using q5
        have HN := Lib.hid (hbad (.inr (by unfold mayK; rw [decide_eq_false_iff_not]; simp only; omega)))
        clear q5 hbad hstp
        clear q0
        clear q1
        clear q2
        clear q3
        clear q4
        go_wp2
        go_ret
        exact rmay_bad HBX.out HN.out
      have d5 : decide (8 < x6) = false := by simpa using q5
      by_cases q6 : x2 = false ∧ x6 ≠ 0
      · obtain ⟨rfl, q7⟩ := q6
        have d6 : (x6 != 0) = true := by simpa using q7
        have HN := Lib.hid (hbad (.inr (by unfold mayK; rw [decide_eq_false_iff_not]; simp [q7])))
        clear q0 q1 q2 q3 q4 q5 q7 hbad hstp
        go_wp2
        go_ret
        exact rmay_bad HBX.out HN.out
      by_cases q7 : x2 = true ∧ x5 = true
      · obtain ⟨rfl, rfl⟩ := q7
        have HN := Lib.hid (hbad (.inr (by unfold mayK; rw [decide_eq_false_iff_not]; simp)))
        clear q0 q1 q2 q3 q4 q5 q6 hbad hstp
        go_wp2
        go_ret
        exact rmay_bad HBX.out HN.out
      have hmk : mayK ⟨x1, x2, x3, x4, x5, x6⟩ = true := by
        unfold mayK
        rw [decide_eq_true_iff]
        refine ⟨by simp only; omega, by simp only; omega, by simp only; omega, by simp only; omega, by simp only; omega, by simp only; omega, ?_, q7⟩
        cases x2
        · right
          by_cases e : x6 = 0
          · exact e
          · exact absurd ⟨rfl, e⟩ q6
        · left; rfl
      have HST := Lib.hid (fun h => hstp hmk h)
      have HBD := Lib.hid (fun h => hbad (.inl h))
      have d6 : x2 = false → (x6 != 0) = false := fun h => by
        by_cases e : x6 = 0
        · simpa using e
        · exact absurd ⟨h, e⟩ q6
      have d7 : x2 = true → x5 = false := fun h => by
        cases x5
        · rfl
        · exact absurd ⟨h, rfl⟩ q7
      clear q0 q1 q2 q3 q4 q5 q6 q7 hbad hstp hmk
      have hkb := KBox.box ⟨x1, x2, x3, x4, x5, x6⟩ wr 61
      have hat3 := Lib.hid (fun t (ht : t < ks.length) => (hat2.out t ht).below ((Below.refl wr.heap.size wr).alloc (Nat.le_refl _) (.cells #[.int .i64 x1, .bool x2, .int .u8 x3, .bool x4, .bool x5, .int .i64 x6] 61)) hblr)
      cases x2
      · have d6 := d6 rfl
        clear d7
        go_wp2
        obtain ⟨wo, rfl⟩ : ∃ wo : World, wo = wr := ⟨_, rfl⟩
        generalize wo.alloc (.cells #[.int .i64 x1, .bool false, .int .u8 x3, .bool x4, .bool x5, .int .i64 x6] 61) = W at *
        go_loopw [5] (fun i wr => ∃ t n : Nat, t ≤ k ∧ i = .int .i64 t ∧ Hid (∀ m (hm : m < ks.length), m < t → ks[m].id ≠ x1) ∧ wr = W.drewN n) (fun i _ => k - (intOf i).toNat)
        case atStart => exact ⟨0, 0, Nat.zero_le _, rfl, Lib.hid (fun m hm h => absurd h (by omega)), rfl⟩
        case round =>
          obtain ⟨t, n, htk, rfl, hno, rfl⟩ := hrel
          by_cases htl : t < k
          · have htt : t < ks.length := by omega
            have e0 := (hat3.out t htt).1
            have HIS2 := Lib.hid (fun h => HBD.out (HIS.out t htt htl h))
            have HNO2 := Lib.hid (fun (h : ks[t].id ≠ x1) m (hm : m < ks.length) (hmt : m < t + 1) => if e : m = t then (by subst e; exact h) else hno.out m hm (by omega))
            generalize ks[t].id = y at e0 HIS2 HNO2
            by_cases he : y = x1
            · have q1 : (y == x1) = true := by simpa using he
              have HN := Lib.hid (HIS2.out he)
              clear he HIS2 HNO2 hno
              go_wp2
              go_quiet (fail)
              go_wp2
              go_ret
              exact rmay_bad (blw_drewN (blw_drewN HBX.out n) _) HN.out
            · have q1 : (y == x1) = false := by simpa using he
              have HN := Lib.hid (HNO2.out he)
              clear he HIS2 HNO2 hno
              go_wp2
              go_quiet (fail)
              go_wp2
              go_roundw
              case rel => exact ⟨t + 1, n + nq, by omega, by go_num, HN, rfl⟩
              case measure => simp [intOf]; omega
          · obtain rfl : t = k := by omega
            have HG := Lib.hid (HST.out (HIN.out (fun m hm hmt => hno.out m hm hmt)))
            have HBQ := Lib.hid (blw_drewN HBX.out n)
            clear hno
            go_wp2
            go_roundw
            case rel => exact ⟨t + 1, by omega, by go_num, HG.out, HBQ.out⟩
            case measure => simp [intOf]; omega
      · have d7 := d7 rfl
        subst d7
        clear d6
        go_wp2
        obtain ⟨wo, rfl⟩ : ∃ wo : World, wo = wr := ⟨_, rfl⟩
        generalize wo.alloc (.cells #[.int .i64 x1, .bool true, .int .u8 x3, .bool x4, .bool false, .int .i64 x6] 61) = W at *
        go_loopw [5] (fun i wr => ∃ t n : Nat, t ≤ k ∧ i = .int .i64 t ∧ Hid (∀ m (hm : m < ks.length), m < t → ks[m].id ≠ x1) ∧ wr = W.drewN n) (fun i _ => k - (intOf i).toNat)
        case atStart => exact ⟨0, 0, Nat.zero_le _, rfl, Lib.hid (fun m hm h => absurd h (by omega)), rfl⟩
        case round =>
          obtain ⟨t, n, htk, rfl, hno, rfl⟩ := hrel
          by_cases htl : t < k
          · have htt : t < ks.length := by omega
            have e0 := (hat3.out t htt).1
            have HIS2 := Lib.hid (fun h => HBD.out (HIS.out t htt htl h))
            have HNO2 := Lib.hid (fun (h : ks[t].id ≠ x1) m (hm : m < ks.length) (hmt : m < t + 1) => if e : m = t then (by subst e; exact h) else hno.out m hm (by omega))
            generalize ks[t].id = y at e0 HIS2 HNO2
            by_cases he : y = x1
            · have q1 : (y == x1) = true := by simpa using he
              have HN := Lib.hid (HIS2.out he)
              clear he HIS2 HNO2 hno
              go_wp2
              go_quiet (fail)
              go_wp2
              go_ret
              exact rmay_bad (blw_drewN (blw_drewN HBX.out n) _) HN.out
            · have q1 : (y == x1) = false := by simpa using he
              have HN := Lib.hid (HNO2.out he)
              clear he HIS2 HNO2 hno
              go_wp2
              go_quiet (fail)
              go_wp2
              go_roundw
              case rel => exact ⟨t + 1, n + nq, by omega, by go_num, HN, rfl⟩
              case measure => simp [intOf]; omega
          · obtain rfl : t = k := by omega
            have HG := Lib.hid (HST.out (HIN.out (fun m hm hmt => hno.out m hm hmt)))
            have HBQ := Lib.hid (blw_drewN HBX.out n)
            clear hno
            go_wp2
            go_roundw
            case rel => exact ⟨t + 1, by omega, by go_num, HG.out, HBQ.out⟩
            case measure => simp [intOf]; omega
    · obtain rfl : k = ks.length := by omega
      rw [List.take_of_length_le (Nat.le_refl _)] at hg
      have HG := Lib.hid (show mayKs ks from ⟨hl, hg⟩)
      have HB := Lib.hid hbw
      clear hg hbw
      go_wp2
      go_ret
      exact rmay_good HB.out HG.out

theorem rmay_keys (v : Value) (ks : List Key) (w : World) (hv : Krow w v ks) :
    Calls Try.prog 24 #[v] w (MayPost ks w) := by
  by_cases hl : 64 < ks.length
  · exact rmay_long v ks w hv hl
  · by_cases h0 : 0 < ks.length
    · exact rmay_some v ks w hv (by omega) h0
    · obtain rfl : ks = [] := List.eq_nil_of_length_eq_zero (by omega)
      exact rmay_none v w hv
end Go.Proofs.Ytnggnfhaokkcmaa

/- S12: Fits, and the reference's -/
namespace Go.Proofs.Ytnggnfhaokkcmaa
open Go.RowKit
set_option linter.unusedVariables false

def fitsB (ks : List Key) (id : Int) (k n f : Int) (s : ByteArray) : Bool :=
  match fnd ks id with
  | none => false
  | some key => (k == key.kind) && vmay k n f s
theorem fitsB_none {ks : List Key} {id k n f : Int} {s : ByteArray} (h : fnd ks id = none) : fitsB ks id k n f s = false := by unfold fitsB; rw [h]
theorem fitsB_some {ks : List Key} {id k n f : Int} {s : ByteArray} {key : Key} (h : fnd ks id = some key) : fitsB ks id k n f s = ((k == key.kind) && vmay k n f s) := by unfold fitsB; rw [h]

set_option maxRecDepth 100000 in
theorem rfits_any (v : Value) (ks : List Key) (id : Int) (k n f : Int) (s : ByteArray) (w : World) (hv : Krow w v ks) (h0 : 0 ≤ f) (h1 : f < 18446744073709551616) (hsz : s.size ≤ 1048576) :
    Calls Try.prog 53 #[v, .int .i64 id, val k n f s] w fun e w' => e = .returned (.bool (fitsB ks id k n f s)) ∧ Below w.heap.size w w' := by
  have hB := (Below.refl w.heap.size w).alloc (Nat.le_refl _) (.cells (vcells k n f s) 37)
  have hA := At.box k n f s w 37
  have HF := rfind_any v ks id _ (hv.below hB (Nat.le_refl _))
  have HM := fun w => rvmay_any k n f s w h0 h1 hsz
  cases hf : fnd ks id with
  | none =>
    rw [fndV_none hf] at HF
    rw [fitsB_none hf]
    have HF := Lib.hid HF
    clear hf hv HM
    go_enter Try.func53, Try.ntmps53
    go_wp2_with (go_at_call 55; ((with_reducible refine HF.out.mono ?_); rintro e w1 ⟨rfl, hb1⟩))
    go_ret
    exact ⟨rfl, (below_add hB hb1 hB.size).alloc (below_add hB hb1 hB.size).size _⟩
  | some key =>
    rw [fndV_some hf] at HF
    rw [fitsB_some hf]
    have HF := Lib.hid HF
    generalize vmay k n f s = m at HM ⊢
    clear hf hv
    obtain ⟨k1, k2, k3, k4, k5, k6⟩ := key
    simp only
    cases m
    · have HM := Lib.hid HM
      rw [Bool.and_false]
      go_enter Try.func53, Try.ntmps53
      go_wp2_with (first
        | (go_at_call 55; ((with_reducible refine HF.out.mono ?_); rintro e w1 ⟨rfl, hb1⟩; have hA1 := (hA.below hb1).below ((Below.refl _ _).alloc (Nat.le_refl _) (.cells (kca ⟨k1, k2, k3, k4, k5, k6⟩) 61)); have hC := (below_add hB hb1 hB.size).alloc (below_add hB hb1 hB.size).size (.cells (kca ⟨k1, k2, k3, k4, k5, k6⟩) 61)))
        | (go_at_call 52; ((with_reducible refine (HM.out _).mono ?_); rintro e w2 ⟨rfl, hb2⟩)))
      go_ret
      exact ⟨rfl, below_add hC hb2 hC.size⟩
    · have HM := Lib.hid HM
      rw [Bool.and_true]
      go_enter Try.func53, Try.ntmps53
      go_wp2_with (first
        | (go_at_call 55; ((with_reducible refine HF.out.mono ?_); rintro e w1 ⟨rfl, hb1⟩; have hA1 := (hA.below hb1).below ((Below.refl _ _).alloc (Nat.le_refl _) (.cells (kca ⟨k1, k2, k3, k4, k5, k6⟩) 61)); have hK1 := KBox.box ⟨k1, k2, k3, k4, k5, k6⟩ w1 61; have hC := (below_add hB hb1 hB.size).alloc (below_add hB hb1 hB.size).size (.cells (kca ⟨k1, k2, k3, k4, k5, k6⟩) 61)))
        | (go_at_call 52; ((with_reducible refine (HM.out _).mono ?_); rintro e w2 ⟨rfl, hb2⟩; have hA2 := hA1.below hb2; have hK2 := hK1.below hb2 (by simp))))
      go_ret
      exact ⟨rfl, below_add hC hb2 hC.size⟩
end Go.Proofs.Ytnggnfhaokkcmaa

/- A1: rows of whatever lies in m cells -/
namespace Go.Proofs.Ytnggnfhaokkcmaa
open Go.RowKit
set_option linter.unusedVariables false

/-- How an element lies: m cells, each whole. -/
structure Cel (α : Type) where
  c : α → List Value
  m : Nat
  len : ∀ x, (c x).length = m
  one : ∀ x, ∀ u ∈ c x, u.oneCell' = true
  pos : 0 < m

section
variable {α : Type} (C : Cel α)
def fl (xs : List α) : List Value := xs.flatMap C.c
theorem fl_nil : fl C [] = [] := rfl
theorem fl_cons (x : α) (r : List α) : fl C (x :: r) = C.c x ++ fl C r := rfl
theorem fl_app (a b : List α) : fl C (a ++ b) = fl C a ++ fl C b := by simp [fl]
theorem fl_one (x : α) : fl C [x] = C.c x := by simp [fl]
theorem fl_len : ∀ xs : List α, (fl C xs).length = xs.length * C.m
  | [] => by simp [fl]
  | x :: r => by rw [fl_cons, List.length_append, fl_len r, C.len, List.length_cons, Nat.add_mul]; omega
theorem fl_ones (xs : List α) : ∀ u ∈ fl C xs, u.oneCell' = true := by
  intro u hu
  obtain ⟨x, _, hx⟩ := List.mem_flatMap.1 hu
  exact C.one x u hx
theorem fl_get : ∀ (xs : List α) (j i : Nat) (hj : j < xs.length), i < C.m → (fl C xs)[j * C.m + i]? = (C.c xs[j])[i]?
  | x :: r, 0, i, _, hi => by
    rw [fl_cons, List.getElem?_append_left (by rw [C.len]; omega)]
    simp
  | x :: r, j + 1, i, hj, hi => by
    have e : (j + 1) * C.m + i = C.m + (j * C.m + i) := by rw [Nat.add_mul]; omega
    rw [fl_cons, List.getElem?_append_right (by rw [C.len]; omega)]
    have : (j + 1) * C.m + i - (C.c x).length = j * C.m + i := by rw [C.len]; omega
    rw [this, fl_get r j i (by simpa using hj) hi]
    simp
/-- A slice that reads as xs. -/
def Row (w : World) (v : Value) (xs : List α) : Prop :=
  (∃ a cap, v = .slice a 0 cap ∧ xs = [] ∧ cap ≤ maxLen ∧ (a = none → cap = 0)) ∨
  ∃ b off cap, v = .slice (some ⟨b, off, none⟩) xs.length cap ∧ 0 < xs.length ∧ xs.length ≤ cap ∧ cap ≤ maxLen ∧
    (∀ j u, (fl C xs)[j]? = some u → w.cell? ⟨b, off + j, none⟩ = some u)
variable {C}
theorem Row.below {B : Nat} {w w' : World} {v : Value} {xs : List α} (h : Row C w v xs) (hb : Below B w w') (hB : w.heap.size ≤ B) : Row C w' v xs := by
  rcases h with h | ⟨b, off, cap, rfl, h0, h1, h2, h3⟩
  · exact .inl h
  · refine .inr ⟨b, off, cap, rfl, h0, h1, h2, fun j u hu => ?_⟩
    have := h3 j u hu
    rw [← this]
    exact hb.cell (p := ⟨b, off + j, none⟩) (Nat.lt_of_lt_of_le (World.block_lt_of_cell? w _ this) hB)
theorem Row.shape {w : World} {v : Value} {xs : List α} (h : Row C w v xs) : ∃ a cap, v = .slice a xs.length cap := by
  rcases h with ⟨a, cap, rfl, rfl, hm, _⟩ | ⟨b, off, cap, rfl, h0, h1, hm, hc⟩
  · exact ⟨a, cap, rfl⟩
  · exact ⟨_, _, rfl⟩
theorem Row.len {w : World} {v : Value} {xs : List α} (h : Row C w v xs) : xs.length ≤ 9223372036854775807 := by
  rcases h with ⟨a, cap, rfl, rfl, _⟩ | ⟨b, off, cap, rfl, h0, h1, h2, h3⟩
  · simp
  · unfold maxLen at h2; omega
theorem Row.nil (w : World) : Row C w (.slice none 0 0) [] := .inl ⟨none, 0, rfl, rfl, by simp, fun _ => rfl⟩
theorem Row.opened {w : World} {a : Option Addr} {n cap : Nat} {xs : List α} (h : Row C w (.slice a n cap) xs) (h0 : 0 < xs.length) :
    ∃ b off, a = some ⟨b, off, none⟩ ∧ n = xs.length ∧ xs.length ≤ cap ∧ cap ≤ maxLen ∧ b < w.heap.size ∧
      (∀ j (hj : j < xs.length) i u, (C.c xs[j])[i]? = some u → w.cell? ⟨b, off + j * C.m + i, none⟩ = some u) ∧ (∀ j u, (fl C xs)[j]? = some u → w.cell? ⟨b, off + j, none⟩ = some u) := by
  rcases h with ⟨a, cap, hv, rfl, _⟩ | ⟨b, off, cap', hv, _, h1, hm, hc⟩
  · simp at h0
  · injection hv with e1 e2 e3
    subst e1 e2 e3
    have hat : ∀ j (hj : j < xs.length) i u, (C.c xs[j])[i]? = some u → w.cell? ⟨b, off + j * C.m + i, none⟩ = some u := fun j hj i u hu => by
      have hi : i < C.m := by have := (List.getElem?_eq_some_iff.1 hu).1; rwa [C.len] at this
      have := hc (j * C.m + i) u ((fl_get C xs j i hj hi).trans hu)
      rwa [← Nat.add_assoc] at this
    have hb : b < w.heap.size := by
      have hp : 0 < (C.c xs[0]).length := by rw [C.len]; exact C.pos
      exact World.block_lt_of_cell? w _ (hat 0 h0 0 _ (List.getElem?_eq_getElem hp))
    exact ⟨b, off, rfl, rfl, h1, hm, hb, hat, hc⟩
/-- A row that the call owns reads as what it owns. -/
theorem Row.of_owns {w : World} {base : Nat} {e : TypeId} {v : Value} {n : Nat} {xs : List α} (h : w.ownsRow base e C.m v n (fl C xs)) : Row C w v xs ∧ n = xs.length := by
  have hn : n = xs.length := by have := h.1; rw [fl_len] at this; exact (Nat.eq_of_mul_eq_mul_right C.pos this).symm
  subst hn
  refine ⟨?_, rfl⟩
  by_cases hx : xs = []
  · subst hx
    rcases h.2 with ⟨rfl, _⟩ | ⟨g, cap, cur, rfl, hb, hg, hc, hm, _⟩
    · exact .inl ⟨none, 0, rfl, rfl, by simp, fun _ => rfl⟩
    · exact .inl ⟨_, cap, rfl, rfl, hm, by simp⟩
  · have hpos : 0 < xs.length := List.length_pos_iff.2 hx
    rcases h.2 with ⟨rfl, h0⟩ | ⟨g, cap, cur, hv, hb, hg, hc, hm, _⟩
    · omega
    · subst hv
      refine .inr ⟨g, 0, cap, rfl, hpos, hc, hm, fun j u hu => ?_⟩
      have := h.cells (g := g) rfl j u hu
      rw [Go.WideShapes.add_plain] at this
      simpa using this
/-- The block of a row that the call owns lies from its base on. -/
theorem own_base {w : World} {base : Nat} {e : TypeId} {size : Nat} {v : Value} {n : Nat} {xs : List Value} (h : w.ownsRow base e size v n xs) {k : Nat} (hk : v.ownBlock = some k) : base ≤ k := by
  rcases h.2 with ⟨rfl, _⟩ | ⟨g, cap, cur, rfl, hb, _⟩
  · simp [Value.ownBlock] at hk
  · simp [Value.ownBlock] at hk; omega
theorem Row.built (w : World) (t : TypeId) (xs : List α) (hm : xs.length ≤ maxLen) : Row C (w.alloc (.cells (fl C xs).toArray t)) (.slice (some ⟨w.heap.size, 0, none⟩) xs.length xs.length) xs := by
  by_cases h0 : xs = []
  · subst h0; exact .inl ⟨_, 0, rfl, rfl, by simp, by simp⟩
  · refine .inr ⟨_, 0, _, rfl, List.length_pos_iff.2 h0, Nat.le_refl _, hm, fun j u hu => ?_⟩
    rw [cell_of_row (w.alloc (.cells (fl C xs).toArray t)) w.heap.size (0 + j) _ t (0, 0) (heap_alloc_new w _), ← hu]
    simp
theorem row_mid_len (xs : List α) {lo hi : Nat} (h1 : lo ≤ hi) (h2 : hi ≤ xs.length) : ((xs.take hi).drop lo).length = hi - lo := by rw [List.length_drop, List.length_take]; omega
/-- A part of a slice, as Go cuts it. -/
theorem Row.mid {w : World} {a : Option Addr} {n cap lo hi : Nat} {xs : List α} (h : Row C w (.slice a n cap) xs) (h1 : lo ≤ hi) (h2 : hi ≤ xs.length) :
    Row C w (sliced a lo hi cap C.m) ((xs.take hi).drop lo) := by
  have hl := row_mid_len xs h1 h2
  have hcm : cap ≤ maxLen ∧ (a = none → cap = 0) ∧ xs.length ≤ cap := by
    rcases h with ⟨a', cap', hv', hx, hm, hn⟩ | ⟨b, off, cap', hv', _, hc, hm, _⟩
    · injection hv' with e1 e2 e3; subst e1 e3; subst hx; exact ⟨hm, hn, by simp⟩
    · injection hv' with e1 e2 e3; subst e1 e3; exact ⟨hm, by simp, hc⟩
  unfold sliced
  by_cases h0 : lo = hi
  · subst h0
    refine .inl ⟨_, cap - lo, by rw [Nat.sub_self], by apply List.drop_eq_nil_of_le; rw [List.length_take]; omega, by omega, fun hn => ?_⟩
    split at hn
    · have := hcm.2.1 hn; omega
    · have := hcm.2.1 (by simpa using hn); omega
  · obtain ⟨b, off, ha, hn, hx, hm, hbl, -, hcc⟩ := h.opened (by omega)
    subst ha
    rw [if_neg (by omega)]
    refine .inr ⟨b, off + lo * C.m, cap - lo, ?_, by omega, by omega, by omega, fun j u hu => ?_⟩
    · rw [hl, Option.map_some, Go.WideShapes.add_plain]
    · have hj : j < (hi - lo) * C.m := by
        have := (List.getElem?_eq_some_iff.1 hu).1
        rwa [fl_len, hl] at this
      have e : fl C xs = fl C (xs.take lo) ++ (fl C ((xs.take hi).drop lo) ++ fl C (xs.drop hi)) := by
        rw [← fl_app, ← fl_app]
        congr 1
        have e2 : xs.take lo = (xs.take hi).take lo := by rw [List.take_take, Nat.min_eq_left h1]
        rw [e2, ← List.append_assoc, List.take_append_drop, List.take_append_drop]
      have hlo : (fl C (xs.take lo)).length = lo * C.m := by rw [fl_len, List.length_take, Nat.min_eq_left (by omega)]
      have : (fl C xs)[lo * C.m + j]? = some u := by
        rw [e, List.getElem?_append_right (by omega), hlo, Nat.add_sub_cancel_left, List.getElem?_append_left (by rw [fl_len, hl]; exact hj)]
        exact hu
      rw [Nat.add_assoc]
      exact hcc _ _ this
theorem Row.headed {w : World} {a : Option Addr} {n cap hi : Nat} {xs : List α} (h : Row C w (.slice a n cap) xs) (h2 : hi ≤ xs.length) : Row C w (sliced a 0 hi cap C.m) (xs.take hi) := by
  have := h.mid (Nat.zero_le hi) h2
  simpa using this
theorem Row.tailed {w : World} {a : Option Addr} {n cap lo : Nat} {xs : List α} (h : Row C w (.slice a n cap) xs) (h1 : lo ≤ xs.length) : Row C w (sliced a lo xs.length cap C.m) (xs.drop lo) := by
  have := h.mid h1 (Nat.le_refl _)
  rwa [List.take_of_length_le (Nat.le_refl _)] at this

theorem Row.head {w : World} {a : Option Addr} {n cap hi : Nat} {xs : List α} (h : Row C w (.slice a n cap) xs) (h2 : hi ≤ xs.length) : Row C w (.slice a hi cap) (xs.take hi) := by
  have := h.headed h2
  unfold sliced at this
  have e : (if cap = 0 then a else a.map (·.add (0 * C.m))) = a := by
    split
    · rfl
    · rw [Nat.zero_mul]
      cases a with
      | none => rfl
      | some x => obtain ⟨b, o, s⟩ := x; simp [Addr.add]
  rw [e] at this
  simpa using this
theorem Row.tail {w : World} {a : Option Addr} {n cap lo : Nat} {xs : List α} (h : Row C w (.slice a n cap) xs) (h1 : lo ≤ xs.length) :
    (cap = lo → Row C w (.slice a (xs.length - lo) 0) (xs.drop lo)) ∧ (¬ cap = lo → Row C w (.slice (a.map fun x => x.add (lo * C.m)) (xs.length - lo) (cap - lo)) (xs.drop lo)) := by
  have := h.tailed h1
  unfold sliced at this
  refine ⟨fun hc => ?_, fun hc => ?_⟩
  · rw [if_pos hc, hc, Nat.sub_self] at this; exact this
  · rw [if_neg hc] at this; exact this

/-- append(out, src...): out the call's own, src whatever slice, nil too. -/
theorem wpList_append_row {P : Program} {w : World} {ops : Array Oper} {rest : List Oper} {o : Oper} {a : Act} {Q : Exit → Act → World → Prop} (hgd : o.guard = none) (s x : Operand) (t : TypeId)
    (ho : o.op = .call { callee := .builtin .append, args := #[s, x], argTypes := #[t, t] })
    (base : Nat) (e : TypeId) (i : TypeInfo) (z : Value) (bytes : Nat) (ht : P.underlying t = some (.slice e)) (hi : P.info? e = some i) (hz : i.zero = some z)
    (hsize : i.size = C.m) (hby : i.bytes = bytes) (hzs : z.cells.size = C.m)
    (v : Value) (n : Nat) (cs : List Value) (hs : a.eval s = v) (hown : w.ownsRow base e C.m v n cs)
    (u : Value) (ys : List α) (hx : a.eval x = u) (hu : Row C w u ys)
    (h63 : n + ys.length ≤ maxLen) (hbytes : (n + ys.length) * bytes ≤ 140737488355328) (hbase : base ≤ w.heap.size)
    (h : ∀ v' w', w'.ownsRow base e C.m v' (n + ys.length) (cs ++ fl C ys) → w.grownBy w' v.ownBlock → wpList P ops Q rest (a.put o.dst v') w') : wpList P ops Q (o :: rest) a w := by
  rcases hu with ⟨ad, cap, rfl, rfl, hm, hc0⟩ | ⟨b, off, cap, rfl, h0, h1, hm, hc⟩
  · cases ad with
    | none =>
      obtain rfl := hc0 rfl
      exact wpList_append_own_none hgd s x t ho base e i C.m ht hi v n cs hs hown hx (h v w (by simpa [fl_nil] using hown) (grown_refl _ _))
    | some ad =>
      exact wpList_append_own w hgd s x t ho base e i z C.m bytes ht hi hz hsize hby hzs C.pos v n cs hs hown ad 0 cap [] hx (by simp) (by intro j u hj; simp at hj) (by intro u hu; cases hu) h63 hbytes hbase (fun v' w' q1 q2 _ => h v' w' (by simpa [fl_nil] using q1) q2)
  · refine wpList_append_own w hgd s x t ho base e i z C.m bytes ht hi hz hsize hby hzs C.pos v n cs hs hown ⟨b, off, none⟩ ys.length cap (fl C ys) hx (fl_len C ys) ?_ (fl_ones C ys) h63 hbytes hbase (fun v' w' q1 q2 _ => h v' w' q1 q2)
    intro j u hj
    rw [Go.WideShapes.add_plain]
    exact hc j u hj
end
section
variable {P : Program} {ops : Array Oper} {C : World → Prop} {Q : Act → Prop} {a : Act} {o : Oper} {rest : List Oper}
/-- The class walk, closed in a structure: else each tactic that looks at its goal's head runs the region. -/
structure WQ (P : Program) (ops : Array Oper) (C : World → Prop) (Q : Act → Prop) (l : List Oper) (a : Act) : Prop where
  out : wpQuiet P ops C Q l a
theorem region_classw {id : Nat} {Q' : Exit → Act → World → Prop} {w : World} {l : List Oper} (hm : P.follows .mixedOrders = true) (hB : Region.lexB .any l.toArray = true) (hC : C w.drew)
    (h : WQ P l.toArray C (fun a' => ∀ w', C w' → Q' .normal a' w') l a) : (Code.region id l.toArray true).wp P Q' a w := region_class hm hB hC h.out
theorem w_skip {j : Nat} {want : Bool} (hg : o.guard = some (j, want)) (hy : yielded ops a.tmps j = some (!want)) (k : WQ P ops C Q rest (a.put o.dst undef)) : WQ P ops C Q (o :: rest) a :=
  ⟨q_skip (by unfold Region.wanted; rw [hg]; simp only [hy]; cases want <;> rfl) k.out⟩
theorem w_skipn {j : Nat} {want : Bool} (hg : o.guard = some (j, want)) (hy : yielded ops a.tmps j = none) (k : WQ P ops C Q rest (a.put o.dst undef)) : WQ P ops C Q (o :: rest) a :=
  ⟨q_skip (by unfold Region.wanted; rw [hg]; simp only [hy]; rfl) k.out⟩
theorem w_valg {j : Nat} {want : Bool} {v : Value} (hg : o.guard = some (j, want)) (hy : yielded ops a.tmps j = some want) (hv : ∀ w, C w → (execOp a.eval o).run P w = .ok (.value v) w) (k : WQ P ops C Q rest (a.put o.dst v)) : WQ P ops C Q (o :: rest) a :=
  ⟨q_val (by unfold Region.wanted; rw [hg]; simp only [hy]; cases want <;> rfl) hv k.out⟩
theorem w_val {v : Value} (hg : o.guard = none) (hv : ∀ w, C w → (execOp a.eval o).run P w = .ok (.value v) w) (k : WQ P ops C Q rest (a.put o.dst v)) : WQ P ops C Q (o :: rest) a :=
  ⟨q_val (by unfold Region.wanted; rw [hg]) hv k.out⟩
theorem w_callg {j : Nat} {want : Bool} {v : Value} {f : FuncId} {args : Array Value} (hg : o.guard = some (j, want)) (hy : yielded ops a.tmps j = some want) (hv : ∀ w, C w → (execOp a.eval o).run P w = .ok (.enter f args) w)
    (hc : ∀ w, C w → Calls P f args w fun e w' => e = .returned v ∧ C w') (k : WQ P ops C Q rest (a.put o.dst v)) : WQ P ops C Q (o :: rest) a :=
  ⟨q_call (by unfold Region.wanted; rw [hg]; simp only [hy]; cases want <;> rfl) hv hc k.out⟩
theorem w_call {v : Value} {f : FuncId} {args : Array Value} (hg : o.guard = none) (hv : ∀ w, C w → (execOp a.eval o).run P w = .ok (.enter f args) w)
    (hc : ∀ w, C w → Calls P f args w fun e w' => e = .returned v ∧ C w') (k : WQ P ops C Q rest (a.put o.dst v)) : WQ P ops C Q (o :: rest) a :=
  ⟨q_call (by unfold Region.wanted; rw [hg]) hv hc k.out⟩
theorem w_end (h : Q a) : WQ P ops C Q [] a := ⟨q_end h⟩
end

end Go.Proofs.Ytnggnfhaokkcmaa

/- A2: attributes as plain data -/
namespace Go.Proofs.Ytnggnfhaokkcmaa
open Go.RowKit
set_option linter.unusedVariables false

/-- An attribute: its key, and the value's kind, number, bits, text. -/
structure Att where
  key : Int
  k : Int
  n : Int
  f : Int
  s : ByteArray
deriving DecidableEq

@[reducible] def av (a : Att) : Value := .agg #[.int .i64 a.key, .int .u8 a.k, .int .i64 a.n, .int .u64 a.f, .string a.s]
@[reducible] def ac (a : Att) : List Value := [.int .i64 a.key, .int .u8 a.k, .int .i64 a.n, .int .u64 a.f, .string a.s]
@[reducible] def aca (a : Att) : Array Value := #[.int .i64 a.key, .int .u8 a.k, .int .i64 a.n, .int .u64 a.f, .string a.s]
@[reducible] def noAtt : Att := ⟨0, 0, 0, 0, ⟨#[]⟩⟩
instance : Inhabited Att := ⟨noAtt⟩
/-- An attribute's value. -/
@[reducible] def vv (a : Att) : Value := val a.k a.n a.f a.s

theorem ac_one (a : Att) : ∀ u ∈ ac a, u.oneCell' = true := by
  intro u hu
  simp at hu
  rcases hu with rfl | rfl | rfl | rfl | rfl <;> rfl
/-- How an attribute lies: five cells. -/
def attC : Cel Att := ⟨ac, 5, fun _ => rfl, ac_one, by decide⟩
theorem attC_m : attC.m = 5 := rfl
theorem attC_c (a : Att) : attC.c a = ac a := rfl

/-- What an attribute's numbers are within. -/
structure AttW (a : Att) : Prop where
  key : (Lit.int .i64 a.key).wf = true
  k : (Lit.int .u8 a.k).wf = true
  n : (Lit.int .i64 a.n).wf = true
  f : (Lit.int .u64 a.f).wf = true
  s : a.s.size ≤ maxLen
theorem AttW.f0 {a : Att} (h : AttW a) : 0 ≤ a.f := by have := Go.bounds_u64 h.f; omega
theorem AttW.f1 {a : Att} (h : AttW a) : a.f < 18446744073709551616 := by have := Go.bounds_u64 h.f; omega

/-- Its five cells at a place; at a block's head. -/
@[reducible] def AAt (b o : Nat) (a : Att) (w : World) : Prop :=
  w.cell? ⟨b, o, none⟩ = some (.int .i64 a.key) ∧ w.cell? ⟨b, o + 1, none⟩ = some (.int .u8 a.k) ∧ w.cell? ⟨b, o + 2, none⟩ = some (.int .i64 a.n) ∧ w.cell? ⟨b, o + 3, none⟩ = some (.int .u64 a.f) ∧ w.cell? ⟨b, o + 4, none⟩ = some (.string a.s)
@[reducible] def ABox (b : Nat) (a : Att) (w : World) : Prop :=
  w.cell? ⟨b, 0, none⟩ = some (.int .i64 a.key) ∧ w.cell? ⟨b, 1, none⟩ = some (.int .u8 a.k) ∧ w.cell? ⟨b, 2, none⟩ = some (.int .i64 a.n) ∧ w.cell? ⟨b, 3, none⟩ = some (.int .u64 a.f) ∧ w.cell? ⟨b, 4, none⟩ = some (.string a.s)
theorem AAt.below {B b o : Nat} {a : Att} {w w' : World} (h : AAt b o a w) (hb : Below B w w') (hB : b < B) : AAt b o a w' := by
  obtain ⟨h0, h1, h2, h3, h4⟩ := h
  exact ⟨(hb.cell (p := ⟨b, _, none⟩) hB).trans h0, (hb.cell (p := ⟨b, _, none⟩) hB).trans h1, (hb.cell (p := ⟨b, _, none⟩) hB).trans h2, (hb.cell (p := ⟨b, _, none⟩) hB).trans h3, (hb.cell (p := ⟨b, _, none⟩) hB).trans h4⟩
theorem ABox.below {B b : Nat} {a : Att} {w w' : World} (h : ABox b a w) (hb : Below B w w') (hB : b < B) : ABox b a w' := by
  obtain ⟨h0, h1, h2, h3, h4⟩ := h
  exact ⟨(hb.cell (p := ⟨b, _, none⟩) hB).trans h0, (hb.cell (p := ⟨b, _, none⟩) hB).trans h1, (hb.cell (p := ⟨b, _, none⟩) hB).trans h2, (hb.cell (p := ⟨b, _, none⟩) hB).trans h3, (hb.cell (p := ⟨b, _, none⟩) hB).trans h4⟩
theorem ABox.box (a : Att) (w : World) (t : TypeId) : ABox w.heap.size a (w.alloc (.cells (aca a) t)) := by
  refine ⟨?_, ?_, ?_, ?_, ?_⟩ <;> (rw [cell_of_row _ w.heap.size _ _ t (0, 0) (heap_alloc_new w _)]; rfl)
theorem ABox.lt {b : Nat} {a : Att} {w : World} (h : ABox b a w) : b < w.heap.size := World.block_lt_of_cell? w _ h.1

/-- A slice of attributes that reads as xs. -/
@[reducible] def Arow (w : World) (v : Value) (xs : List Att) : Prop := Row attC w v xs
theorem Arow.opn {w : World} {a : Option Addr} {n cap : Nat} {xs : List Att} (h : Arow w (.slice a n cap) xs) (h0 : 0 < xs.length) :
    ∃ b off, a = some ⟨b, off, none⟩ ∧ n = xs.length ∧ xs.length ≤ cap ∧ cap ≤ maxLen ∧ b < w.heap.size ∧ (∀ j (hj : j < xs.length), AAt b (off + j * 5) xs[j] w) := by
  obtain ⟨b, off, ha, hn, hc, hm, hb, hat, -⟩ := Row.opened h h0
  refine ⟨b, off, ha, hn, hc, hm, hb, fun j hj => ⟨?_, ?_, ?_, ?_, ?_⟩⟩
  · exact hat j hj 0 _ rfl
  · exact hat j hj 1 _ rfl
  · exact hat j hj 2 _ rfl
  · exact hat j hj 3 _ rfl
  · exact hat j hj 4 _ rfl

/-- The elements' type, as the program lays it. -/
theorem info_att : Try.prog.info? 39 = Try.prog.info? 39 := rfl

def aeq (a b : Att) : Bool := (a.key == b.key) && ((a.k == b.k) && (a.n == b.n) && (a.f == b.f) && (a.s.toList == b.s.toList))
theorem aeq_iff (a b : Att) : aeq a b = true ↔ a = b := by
  obtain ⟨a1, a2, a3, a4, a5⟩ := a
  obtain ⟨b1, b2, b3, b4, b5⟩ := b
  have hs : a5.toList = b5.toList ↔ a5 = b5 := by
    rw [ByteArray.toList_eq, ByteArray.toList_eq]
    exact ⟨fun h => Go.WideShapes.bytes_inj h, fun h => by rw [h]⟩
  simp [aeq, hs, and_assoc]
theorem aeq_dec (a b : Att) : aeq a b = decide (a = b) := by
  rw [Bool.eq_iff_iff, aeq_iff]; simp

set_option maxRecDepth 100000 in
theorem att_in (a b : Att) (w : World) : (Op.equalIn 10000 39 (av a) (av b)).run Try.prog w = .ok (aeq a b) w := by
  obtain ⟨a1, a2, a3, a4, a5⟩ := a
  obtain ⟨b1, b2, b3, b4, b5⟩ := b
  have hS : Try.prog.underlying 39 = some (.struct (Try.prog.fieldsOf 39)) := by kernel_rfl
  have hp : Try.prog.stoodInHeld 39 = false := by kernel_rfl
  have u0 := Try.underlying3
  have ag0 := Try.isAgg3
  have ag5 := Try.isAgg37
  have z0 := Try.sizeOf3
  have z5 := Try.sizeOf37
  rw [show (10000 : Nat) = 9999 + 1 from rfl, run_equalIn_agg w 9999 39 _ _ hS hp]
  simp only [Program.fieldsOf, Try.underlying39]
  simp only [Op.eqFields, ne_eq]
  go_simp
  unfold aeq
  by_cases h1 : a1 = b1 <;> by_cases h2 : a2 = b2 <;> by_cases h3 : a3 = b3 <;> by_cases h4 : a4 = b4 <;> by_cases h5 : a5.toList = b5.toList <;> simp [h1, h2, h3, h4, h5]
theorem att_eql (a b : Att) (w : World) : (binOp .eql 39 (av a) (av b)).run Try.prog w = .ok (.bool (aeq a b)) w := by
  rw [run_eql_struct, att_in]; rfl
theorem att_neq (a b : Att) (w : World) : (binOp .neq 39 (av a) (av b)).run Try.prog w = .ok (.bool (!aeq a b)) w := by
  rw [run_neq_struct, att_in]; rfl
end Go.Proofs.Ytnggnfhaokkcmaa

/- A3: sets held against one another; great; rising -/
namespace Go.Proofs.Ytnggnfhaokkcmaa
open Go.RowKit
set_option linter.unusedVariables false

theorem atake_snoc {xs : List Att} {k : Nat} (h : k < xs.length) : xs.take (k + 1) = xs.take k ++ [xs[k]] := by
  rw [List.take_succ_eq_append_getElem h]
theorem eq_step {xs ys : List Att} {k : Nat} (h1 : k < xs.length) (h2 : k < ys.length) (h : xs.take k = ys.take k) (he : xs[k] = ys[k]) : xs.take (k + 1) = ys.take (k + 1) := by
  rw [atake_snoc h1, atake_snoc h2, h, he]
theorem eq_end {xs ys : List Att} (hl : xs.length = ys.length) (h : xs.take xs.length = ys.take xs.length) : xs = ys := by
  rw [List.take_of_length_le (Nat.le_refl _), hl, List.take_of_length_le (Nat.le_refl _)] at h; exact h
theorem eq_bad {xs ys : List Att} {k : Nat} (h1 : k < xs.length) (h2 : k < ys.length) (he : ¬ xs[k] = ys[k]) : ¬ xs = ys := by
  intro h; subst h; exact he rfl
theorem dec_yes {p : Prop} [Decidable p] (h : p) : Ending.returned (.bool true) = .returned (.bool (decide p)) := by rw [decide_eq_true h]
theorem dec_no {p : Prop} [Decidable p] (h : ¬ p) : Ending.returned (.bool false) = .returned (.bool (decide p)) := by rw [decide_eq_false h]

set_option maxRecDepth 100000 in
theorem equal_any (v1 v2 : Value) (xs ys : List Att) (w : World) (h1 : Arow w v1 xs) (h2 : Arow w v2 ys) :
    Calls Try.prog 59 #[v1, v2] w fun e w' => e = .returned (.bool (decide (xs = ys))) ∧ ∃ q, w' = w.drewN q := by
  have hl1 := h1.len
  have hl2 := h2.len
  obtain ⟨a1, cap1, rfl⟩ := h1.shape
  obtain ⟨a2, cap2, rfl⟩ := h2.shape
  by_cases hl : xs.length = ys.length
  · by_cases h0 : 0 < xs.length
    · obtain ⟨b1, o1, rfl, -, -, -, -, hat1⟩ := Arow.opn h1 h0
      obtain ⟨b2, o2, rfl, -, -, -, -, hat2⟩ := Arow.opn h2 (by omega)
      clear h1 h2
      have H1 := Lib.hid hat1
      have H2 := Lib.hid hat2
      have HL := Lib.hid hl
      clear hat1 hat2
      rw [← hl]
      clear hl hl2
      go_enter Try.func59, Try.ntmps59
      go_wp2
      go_loopw [13] (fun i wr => ∃ k q : Nat, k ≤ xs.length ∧ i = .int .i64 k ∧ wr = w.drewN q ∧ Hid (xs.take k = ys.take k)) (fun i _ => xs.length - (intOf i).toNat)
      case atStart => exact ⟨0, 0, Nat.zero_le _, rfl, rfl, Lib.hid rfl⟩
      case round =>
        obtain ⟨k, q, hk, rfl, rfl, HP⟩ := hrel
        by_cases hlt : k < xs.length
        · have hlt2 : k < ys.length := by rw [← HL.out]; exact hlt
          obtain ⟨c0, c1, c2, c3, c4⟩ := H1.out k hlt
          obtain ⟨d0, d1, d2, d3, d4⟩ := H2.out k hlt2
          have hS := fun h => eq_step hlt hlt2 HP.out h
          have hE := fun h => eq_bad hlt hlt2 h
          have hD : aeq xs[k] ys[k] = decide (xs[k] = ys[k]) := aeq_dec _ _
          have hq := fun w => att_neq xs[k] ys[k] w
          generalize xs[k] = x at *
          generalize ys[k] = y at *
          by_cases hxy : x = y
          · have HS := Lib.hid (hS hxy)
            have e1 : aeq x y = true := by rw [hD]; simp [hxy]
            rw [e1] at hq
            obtain ⟨x1, x2, x3, x4, x5⟩ := x
            obtain ⟨y1, y2, y3, y4, y5⟩ := y
            clear hS hE hD e1 hxy
            simp only at c0 c1 c2 c3 c4 d0 d1 d2 d3 d4 hq
            go_wp2
            go_quiet (fail)
            go_wp2
            go_roundw
            case rel => exact ⟨k + 1, q + nq, by omega, by go_num, by simp, HS⟩
            case measure => simp [intOf]; omega
          · have HS := Lib.hid (hE hxy)
            have e1 : aeq x y = false := by rw [hD]; simp [hxy]
            rw [e1] at hq
            obtain ⟨x1, x2, x3, x4, x5⟩ := x
            obtain ⟨y1, y2, y3, y4, y5⟩ := y
            clear hS hE hD e1 hxy
            simp only at c0 c1 c2 c3 c4 d0 d1 d2 d3 d4 hq
            go_wp2
            go_quiet (fail)
            go_wp2
            go_ret
            exact ⟨dec_no HS.out, q + nq, by simp⟩
        · obtain rfl : k = xs.length := by omega
          have HE := Lib.hid (eq_end HL.out HP.out)
          clear HP
          go_wp2
          go_ret
          exact ⟨dec_yes HE.out, _, rfl⟩
    · obtain rfl : xs = [] := List.eq_nil_of_length_eq_zero (by omega)
      obtain rfl : ys = [] := List.eq_nil_of_length_eq_zero (by simpa using hl.symm)
      clear h1 h2 h0 hl hl1 hl2
      go_enter Try.func59, Try.ntmps59
      go_wp2
      refine wp_loop_rounds 1 ?_
      rw [rounds_succ]
      go_wp2
      go_ret
      exact ⟨rfl, 0, rfl⟩
  · have HN := Lib.hid (show ¬ xs = ys from fun h => hl (by rw [h]))
    have e1 : ((xs.length : Int) != (ys.length : Int)) = true := by simp; omega
    clear h1 h2
    go_enter Try.func59, Try.ntmps59
    go_wp2
    go_ret
    exact ⟨dec_no HN.out, 0, rfl⟩

theorem same_any5 (v1 v2 : Value) (xs ys : List Att) (w : World) (h1 : Arow w v1 xs) (h2 : Arow w v2 ys) :
    Calls Try.prog 48 #[v1, v2] w fun e w' => e = .returned (.bool (decide (xs = ys))) ∧ Below w.heap.size w w' := by
  have HE := Lib.hid (equal_any v1 v2 xs ys w h1 h2)
  clear h1 h2
  go_enter Try.func48, Try.ntmps48
  go_wp2_with (go_at_call 59; ((with_reducible refine HE.out.mono ?_); rintro e w1 ⟨rfl, q, rfl⟩))
  go_ret
  exact ⟨rfl, blw_drewN (Below.refl _ _) q⟩
end Go.Proofs.Ytnggnfhaokkcmaa

/- A4: the reference's Same, great, Rising -/
namespace Go.Proofs.Ytnggnfhaokkcmaa
open Go.RowKit
set_option linter.unusedVariables false

set_option maxRecDepth 100000 in
theorem rsame_any5 (v1 v2 : Value) (xs ys : List Att) (w : World) (h1 : Arow w v1 xs) (h2 : Arow w v2 ys) :
    Calls Try.prog 30 #[v1, v2] w fun e w' => e = .returned (.bool (decide (xs = ys))) ∧ ∃ q, w' = w.drewN q := by
  have hl1 := h1.len
  have hl2 := h2.len
  obtain ⟨a1, cap1, rfl⟩ := h1.shape
  obtain ⟨a2, cap2, rfl⟩ := h2.shape
  by_cases hl : xs.length = ys.length
  · by_cases h0 : 0 < xs.length
    · obtain ⟨b1, o1, rfl, -, -, -, -, hat1⟩ := Arow.opn h1 h0
      obtain ⟨b2, o2, rfl, -, -, -, -, hat2⟩ := Arow.opn h2 (by omega)
      clear h1 h2
      have H1 := Lib.hid hat1
      have H2 := Lib.hid hat2
      have HL := Lib.hid hl
      clear hat1 hat2
      rw [← hl]
      clear hl hl2
      go_enter Try.func30, Try.ntmps30
      go_wp2
      go_loopw [5] (fun i wr => ∃ k q : Nat, k ≤ xs.length ∧ i = .int .i64 k ∧ wr = w.drewN q ∧ Hid (xs.take k = ys.take k)) (fun i _ => xs.length - (intOf i).toNat)
      case atStart => exact ⟨0, 0, Nat.zero_le _, rfl, rfl, Lib.hid rfl⟩
      case round =>
        obtain ⟨k, q, hk, rfl, rfl, HP⟩ := hrel
        by_cases hlt : k < xs.length
        · have hlt2 : k < ys.length := by rw [← HL.out]; exact hlt
          obtain ⟨c0, c1, c2, c3, c4⟩ := H1.out k hlt
          obtain ⟨d0, d1, d2, d3, d4⟩ := H2.out k hlt2
          have hS := fun h => eq_step hlt hlt2 HP.out h
          have hE := fun h => eq_bad hlt hlt2 h
          have hD : aeq xs[k] ys[k] = decide (xs[k] = ys[k]) := aeq_dec _ _
          have hq := fun w => att_neq xs[k] ys[k] w
          generalize xs[k] = x at *
          generalize ys[k] = y at *
          by_cases hxy : x = y
          · have HS := Lib.hid (hS hxy)
            have e1 : aeq x y = true := by rw [hD]; simp [hxy]
            rw [e1] at hq
            obtain ⟨x1, x2, x3, x4, x5⟩ := x
            obtain ⟨y1, y2, y3, y4, y5⟩ := y
            clear hS hE hD e1 hxy
            simp only at c0 c1 c2 c3 c4 d0 d1 d2 d3 d4 hq
            go_wp2
            go_quiet (fail)
            go_wp2
            go_roundw
            case rel => exact ⟨k + 1, q + nq, by omega, by go_num, by simp, HS⟩
            case measure => simp [intOf]; omega
          · have HS := Lib.hid (hE hxy)
            have e1 : aeq x y = false := by rw [hD]; simp [hxy]
            rw [e1] at hq
            obtain ⟨x1, x2, x3, x4, x5⟩ := x
            obtain ⟨y1, y2, y3, y4, y5⟩ := y
            clear hS hE hD e1 hxy
            simp only at c0 c1 c2 c3 c4 d0 d1 d2 d3 d4 hq
            go_wp2
            go_quiet (fail)
            go_wp2
            go_ret
            exact ⟨dec_no HS.out, q + nq, by simp⟩
        · obtain rfl : k = xs.length := by omega
          have HE := Lib.hid (eq_end HL.out HP.out)
          clear HP
          go_wp2
          go_ret
          exact ⟨dec_yes HE.out, _, rfl⟩
    · obtain rfl : xs = [] := List.eq_nil_of_length_eq_zero (by omega)
      obtain rfl : ys = [] := List.eq_nil_of_length_eq_zero (by simpa using hl.symm)
      clear h1 h2 h0 hl hl1 hl2
      go_enter Try.func30, Try.ntmps30
      go_wp2
      refine wp_loop_rounds 1 ?_
      rw [rounds_succ]
      go_wp2
      go_ret
      exact ⟨rfl, 0, rfl⟩
  · have HN := Lib.hid (show ¬ xs = ys from fun h => hl (by rw [h]))
    have e1 : ((xs.length : Int) != (ys.length : Int)) = true := by simp; omega
    clear h1 h2
    go_enter Try.func30, Try.ntmps30
    go_wp2
    go_ret
    exact ⟨dec_no HN.out, 0, rfl⟩


/-- Keys rise. -/
def Rise (xs : List Att) : Prop := xs.Pairwise (fun a b => a.key < b.key)
instance (xs : List Att) : Decidable (Rise xs) := by unfold Rise; infer_instance
theorem rise_nil : Rise [] := List.Pairwise.nil
theorem rise_step {xs : List Att} {k : Nat} (h : k + 1 < xs.length) (hr : Rise (xs.take (k + 1))) (hl : xs[k].key < xs[k + 1].key) : Rise (xs.take (k + 1 + 1)) := by
  rw [atake_snoc h]
  refine List.pairwise_append.2 ⟨hr, by simp, fun a ha b hb => ?_⟩
  simp at hb
  subst hb
  rw [atake_snoc (by omega : k < xs.length)] at ha hr
  rcases List.mem_append.1 ha with ha | ha
  · have := (List.pairwise_append.1 hr).2.2 a ha xs[k] (by simp)
    omega
  · simp at ha; subst ha; exact hl
theorem rise_bad {xs : List Att} {k : Nat} (h : k + 1 < xs.length) (hl : ¬ xs[k].key < xs[k + 1].key) : ¬ Rise xs := fun hr =>
  hl (List.pairwise_iff_getElem.1 hr k (k + 1) (by omega) h (by omega))
theorem rise_end {xs : List Att} (hr : Rise (xs.take xs.length)) : Rise xs := by rwa [List.take_of_length_le (Nat.le_refl _)] at hr
theorem rise_one {xs : List Att} : Rise (xs.take (0 + 1)) := by
  cases xs with
  | nil => exact rise_nil
  | cons x r => simp [Rise]

set_option maxRecDepth 100000 in
theorem rising_any5 (v : Value) (xs : List Att) (w : World) (h1 : Arow w v xs) :
    Calls Try.prog 51 #[v] w fun e w' => e = .returned (.bool (decide (Rise xs))) ∧ ∃ q, w' = w.drewN q := by
  have hl1 := h1.len
  obtain ⟨a1, cap1, rfl⟩ := h1.shape
  by_cases h0 : 0 < xs.length
  · obtain ⟨b1, o1, rfl, -, -, -, -, hat1⟩ := Arow.opn h1 h0
    clear h1
    have H1 := Lib.hid hat1
    clear hat1
    go_enter Try.func51, Try.ntmps51
    go_wp2
    go_loopw [3] (fun i wr => ∃ k q : Nat, k + 1 ≤ xs.length ∧ i = .int .i64 ((k : Int) + 1) ∧ wr = w.drewN q ∧ Hid (Rise (xs.take (k + 1)))) (fun i _ => xs.length - (intOf i).toNat)
    case atStart => exact ⟨0, 0, h0, rfl, rfl, Lib.hid rise_one⟩
    case round =>
      obtain ⟨k, q, hk, rfl, rfl, HP⟩ := hrel
      by_cases hlt : k + 1 < xs.length
      · obtain ⟨c0, -, -, -, -⟩ := H1.out k (by omega)
        obtain ⟨d0, -, -, -, -⟩ := H1.out (k + 1) hlt
        have hS := fun h => rise_step hlt HP.out h
        have hB := fun h => rise_bad hlt h
        generalize xs[k].key = x at *
        generalize xs[k + 1].key = y at *
        by_cases hxy : x < y
        · have HS := Lib.hid (hS hxy)
          have e1 : decide (y ≤ x) = false := by rw [decide_eq_false_iff_not]; omega
          clear hS hB hxy
          go_wp2
          go_quiet (fail)
          go_wp2
          go_roundw
          case rel => exact ⟨k + 1, q + nq, by omega, by go_num, by simp, HS⟩
          case measure => simp [intOf]; omega
        · have HS := Lib.hid (hB hxy)
          have e1 : decide (y ≤ x) = true := by rw [decide_eq_true_iff]; omega
          clear hS hB hxy
          go_wp2
          go_quiet (fail)
          go_wp2
          go_ret
          exact ⟨dec_no HS.out, q + nq, by simp⟩
      · have hkk : xs.length = k + 1 := by omega
        have HE := Lib.hid (rise_end (by rw [hkk]; exact HP.out))
        clear HP
        go_wp2
        go_ret
        exact ⟨dec_yes HE.out, _, rfl⟩
  · obtain rfl : xs = [] := List.eq_nil_of_length_eq_zero (by omega)
    clear h1 h0 hl1
    go_enter Try.func51, Try.ntmps51
    go_wp2
    refine wp_loop_rounds 1 ?_
    rw [rounds_succ]
    go_wp2
    go_ret
    exact ⟨rfl, 0, rfl⟩
end Go.Proofs.Ytnggnfhaokkcmaa

/- A8: Get; Grow, Concat, Clone -/
namespace Go.Proofs.Ytnggnfhaokkcmaa
open Go.RowKit
set_option linter.unusedVariables false

set_option maxRecDepth 100000 in
theorem info_att5 : ∃ i0, Try.prog.info? 39 = some i0 ∧ i0.zero = some (av noAtt) ∧ i0.size = 5 ∧ i0.bytes = 48 := by
  refine ⟨_, rfl, ?_, ?_, ?_⟩ <;> kernel_rfl

end Go.Proofs.Ytnggnfhaokkcmaa

/- A10: With, Without, Copy -/
namespace Go.Proofs.Ytnggnfhaokkcmaa
open Go.RowKit
set_option linter.unusedVariables false

/-- A set of the call's own that reads as ys. -/
def Own5 (w0 w : World) (u : Value) (ys : List Att) : Prop := w.ownsRow w0.heap.size 39 5 u ys.length (fl attC ys)
end Go.Proofs.Ytnggnfhaokkcmaa

/- A11: Clone, Copy -/
namespace Go.Proofs.Ytnggnfhaokkcmaa
open Go.RowKit
set_option linter.unusedVariables false

theorem own5_nil (w0 w : World) : Own5 w0 w (.slice none 0 0) [] := ⟨rfl, .inl ⟨rfl, rfl⟩⟩

theorem owns_none (w : World) (e : TypeId) (m : Nat) : (w.alloc (.cells #[] e)).ownsRow w.heap.size e m (.slice (some ⟨w.heap.size, 0, none⟩) 0 0) 0 [] :=
  ⟨by simp, .inr ⟨w.heap.size, 0, #[], rfl, Nat.le_refl _, heap_alloc_new w _, Nat.le_refl _, by simp, by simp, by simp⟩⟩
theorem row_new0 (w : World) (a : Att) (t : TypeId) : Arow (w.alloc (.cells (aca a) t)) (.slice (some ⟨w.heap.size, 0, none⟩) 1 1) [a] := Row.built (C := attC) w t [a] (by simp [maxLen])
theorem row_new1 (w : World) (o : Obj) (a : Att) (t : TypeId) : Arow ((w.alloc o).alloc (.cells (aca a) t)) (.slice (some ⟨w.heap.size + 1, 0, none⟩) 1 1) [a] := by
  have h := row_new0 (w.alloc o) a t
  simp only [World.size_alloc] at h
  exact h
theorem nil_eql (a : Option Addr) (l c : Nat) (w : World) : (binOp .eql 31 (.slice a l c) (.slice none 0 0)).run Try.prog w = .ok (.bool a.isNone) w := by
  simp only [binOp, Sem.run_bind, run_equal_slice_nil w 31 39 a l c Try.underlying31, Result.andThen_ok, Sem.run_pure]

set_option maxRecDepth 100000 in
theorem clone_any5 (v : Value) (xs : List Att) (w : World) (hv : Arow w v xs) (hl : xs.length ≤ 100000) :
    Calls Try.prog 45 #[v] w fun e w' => ∃ u, e = .returned u ∧ Own5 w w' u xs ∧ Below w.heap.size w w' := by
  obtain ⟨i0, hi, hz0, hz1, hz2⟩ := info_att5
  have HV := Lib.hid hv
  have hnil := fun a l c w => nil_eql a l c w
  obtain ⟨a, cap, rfl⟩ := hv.shape
  cases a with
  | none =>
    obtain ⟨rfl, rfl⟩ : xs = [] ∧ cap = 0 := by
      rcases hv with ⟨_, _, h, hx, _, h0⟩ | ⟨_, _, _, h, _⟩
      · injection h with h1 _ h3; subst hx; exact ⟨rfl, by rw [h3]; exact h0 h1.symm⟩
      · injection h with h1; cases h1
    clear hv HV
    go_enter Try.func45, Try.ntmps45
    go_wp2
    go_ret
    exact ⟨_, rfl, own5_nil _ _, Below.refl _ _⟩
  | some a =>
    clear hv
    have hB := (Below.refl w.heap.size w).alloc (Nat.le_refl _) (.cells #[] 39)
    go_enter Try.func45, Try.ntmps45
    go_wp2_with (at_builtin; refine wpList_append_row (C := attC) rfl (.tmp 5) (.tmp 6) 31 rfl w.heap.size 39 i0 (av noAtt) 48 Try.underlying31 hi hz0 hz1 hz2 rfl _ 0 [] rfl (owns_none w 39 5) _ xs rfl (HV.out.below hB (Nat.le_refl _)) (by unfold maxLen; omega) (by omega) (by simp) ?_; intro v3 w3 hown3 hgrow3)
    go_ret
    refine ⟨_, rfl, ?_, hB.grown hgrow3 (by simp) (fun j hj => own_base (owns_none w 39 5) hj)⟩
    have h : w3.ownsRow w.heap.size 39 attC.m v3 (0 + xs.length) ([] ++ fl attC xs) := hown3
    rw [Nat.zero_add, List.nil_append] at h
    exact h

end Go.Proofs.Ytnggnfhaokkcmaa

/- A15: wellFormed -/
namespace Go.Proofs.Ytnggnfhaokkcmaa
open Go.RowKit
set_option linter.unusedVariables false

def okV (xs : List Att) : Bool := xs.all fun a => vmay a.k a.n a.f a.s
def okF5 (ks : List Key) (xs : List Att) : Bool := xs.all fun a => fitsB ks a.key a.k a.n a.f a.s
/-- May a set be, but for the schema; what May answers. -/
def wf5 (xs : List Att) : Bool := decide (Rise xs) && decide (xs.length ≤ 64) && okV xs
def may5 (ks : List Key) (xs : List Att) : Int := if wf5 xs then (if okF5 ks xs then 0 else 4) else 3
theorem okV_step {xs : List Att} {k : Nat} (h : k < xs.length) (hp : okV (xs.take k) = true) (hx : vmay xs[k].k xs[k].n xs[k].f xs[k].s = true) : okV (xs.take (k + 1)) = true := by
  unfold okV at *; rw [atake_snoc h, List.all_append, hp]; simpa using hx
theorem okV_bad {xs : List Att} {k : Nat} (h : k < xs.length) (hx : vmay xs[k].k xs[k].n xs[k].f xs[k].s = false) : okV xs = false := by
  unfold okV; rw [List.all_eq_false]; exact ⟨_, List.getElem_mem h, by rw [hx]; exact Bool.false_ne_true⟩
theorem okV_end {xs : List Att} (hp : okV (xs.take xs.length) = true) : okV xs = true := by rwa [List.take_of_length_le (Nat.le_refl _)] at hp
theorem okF_step {ks : List Key} {xs : List Att} {k : Nat} (h : k < xs.length) (hp : okF5 ks (xs.take k) = true) (hx : fitsB ks xs[k].key xs[k].k xs[k].n xs[k].f xs[k].s = true) : okF5 ks (xs.take (k + 1)) = true := by
  unfold okF5 at *; rw [atake_snoc h, List.all_append, hp]; simpa using hx
theorem okF_bad {ks : List Key} {xs : List Att} {k : Nat} (h : k < xs.length) (hx : fitsB ks xs[k].key xs[k].k xs[k].n xs[k].f xs[k].s = false) : okF5 ks xs = false := by
  unfold okF5; rw [List.all_eq_false]; exact ⟨_, List.getElem_mem h, by rw [hx]; exact Bool.false_ne_true⟩
theorem okF_end {ks : List Key} {xs : List Att} (hp : okF5 ks (xs.take xs.length) = true) : okF5 ks xs = true := by rwa [List.take_of_length_le (Nat.le_refl _)] at hp
theorem wf_badV {xs : List Att} (h : okV xs = false) : wf5 xs = false := by unfold wf5; rw [h, Bool.and_false]
theorem wf_badR {xs : List Att} (h : ¬ Rise xs) : wf5 xs = false := by unfold wf5; rw [decide_eq_false h]; rfl
theorem wf_badL {xs : List Att} (h : 64 < xs.length) : wf5 xs = false := by unfold wf5; rw [show decide (xs.length ≤ 64) = false by rw [decide_eq_false_iff_not]; omega]; simp
theorem wf_good {xs : List Att} (h1 : Rise xs) (h2 : xs.length ≤ 64) (h3 : okV xs = true) : wf5 xs = true := by unfold wf5; rw [decide_eq_true h1, decide_eq_true h2, h3]; rfl
theorem may_3 {ks : List Key} {xs : List Att} (h : wf5 xs = false) : may5 ks xs = 3 := by unfold may5; rw [h]; rfl
theorem may_4 {ks : List Key} {xs : List Att} (h : wf5 xs = true) (hf : okF5 ks xs = false) : may5 ks xs = 4 := by unfold may5; rw [h, hf]; rfl
theorem may_0 {ks : List Key} {xs : List Att} (h : wf5 xs = true) (hf : okF5 ks xs = true) : may5 ks xs = 0 := by unfold may5; rw [h, hf]; rfl
end Go.Proofs.Ytnggnfhaokkcmaa

/- A16: May, and the reference's -/
namespace Go.Proofs.Ytnggnfhaokkcmaa
open Go.RowKit
set_option linter.unusedVariables false

theorem ret_may {a b : Int} (h : a = b) : Ending.returned (.int .i64 a) = .returned (.int .i64 b) := by rw [h]

/-- The worlds of the reference's test. -/
def AtC (b o : Nat) (x : Att) (W W' : World) : Prop := AAt b o x W' ∧ Below W.heap.size W W'
theorem AtC.below {b o : Nat} {x : Att} {W w w' : World} (h : AtC b o x W w) (hb : Below w.heap.size w w') : AtC b o x W w' :=
  ⟨h.1.below hb (World.block_lt_of_cell? _ _ h.1.1), below_add h.2 hb h.2.size⟩

set_option maxRecDepth 100000 in
set_option maxHeartbeats 2000000 in
theorem rmay_any5 (p : Value) (ks : List Key) (v : Value) (xs : List Att) (w : World) (hs : Krow w p ks) (hv : Arow w v xs) (hW : ∀ a ∈ xs, AttW a) (hS : ∀ a ∈ xs, a.s.size ≤ 1048576) :
    Calls Try.prog 37 #[p, v] w fun e w' => e = .returned (.int .i64 (may5 ks xs)) ∧ Below w.heap.size w w' := by
  have hl := hv.len
  have hri := rising_any5 v xs w hv
  by_cases hr : Rise xs
  · rw [decide_eq_true hr] at hri
    have HRI := Lib.hid hri
    clear hri
    by_cases hlong : 64 < xs.length
    · have HN := Lib.hid (may_3 (ks := ks) (wf_badL hlong))
      have d1 : decide ((64 : Int) < (xs.length : Int)) = true := by rw [decide_eq_true_iff]; omega
      obtain ⟨a1, cap1, rfl⟩ := hv.shape
      clear hv hs hW hS hr hlong
      go_enter Try.func37, Try.ntmps37
      go_wp2_with (go_at_call 51; refine HRI.out.mono ?_; rintro e w1 ⟨rfl, q, rfl⟩)
      go_ret
      exact ⟨ret_may HN.out.symm, blw_drewN (Below.refl _ _) q⟩
    have d1 : decide ((64 : Int) < (xs.length : Int)) = false := by rw [decide_eq_false_iff_not]; omega
    have HRL := Lib.hid (show Rise xs ∧ xs.length ≤ 64 from ⟨hr, by omega⟩)
    clear hr hlong
    obtain ⟨a1, cap1, rfl⟩ := hv.shape
    by_cases h0 : 0 < xs.length
    · obtain ⟨b1, o1, rfl, -, -, -, hbl, hat⟩ := Arow.opn hv h0
      have HAT := Lib.hid hat
      have HWA := Lib.hid hW
      have HSZ := Lib.hid hS
      have HS := Lib.hid hs
      clear hv hat hW hs hS
      go_enter Try.func37, Try.ntmps37
      go_wp2_with (go_at_call 51; refine HRI.out.mono ?_; rintro e w1 ⟨rfl, q, rfl⟩)
      go_loopw [5] (fun s5 wr => ∃ k : Nat, k ≤ xs.length ∧ s5 = .int .i64 k ∧ Hid (okV (xs.take k) = true) ∧ Below w.heap.size w wr) (fun s5 _ => xs.length - (intOf s5).toNat)
      case atStart => exact ⟨0, Nat.zero_le _, rfl, Lib.hid rfl, blw_drewN (Below.refl _ _) q⟩
      case round =>
        obtain ⟨k, hk, rfl, HP, hb⟩ := hrel
        by_cases hlt : k < xs.length
        · obtain ⟨c0, c1, c2, c3, c4⟩ := (HAT.out k hlt).below hb hbl
          have hw := HWA.out _ (List.getElem_mem hlt)
          have hz := HSZ.out _ (List.getElem_mem hlt)
          have HM := Lib.hid (rvmay_any xs[k].k xs[k].n xs[k].f xs[k].s wr hw.f0 hw.f1 hz)
          have hVS := fun h => okV_step hlt HP.out h
          have hVB := fun h => may_3 (ks := ks) (wf_badV (okV_bad hlt h))
          have HB := Lib.hid hb
          clear hw hz hb
          generalize xs[k] = x at *
          obtain ⟨x1, x2, x3, x4, x5⟩ := x
          simp only at c0 c1 c2 c3 c4 HM hVS hVB
          generalize vmay x2 x3 x4 x5 = m at *
          cases m
          · have HN := Lib.hid (hVB rfl)
            clear hVS hVB
            go_wp2_with (go_at_call 52; refine HM.out.mono ?_; rintro e w2 ⟨rfl, hb2⟩)
            go_ret
            exact ⟨ret_may HN.out.symm, below_add HB.out hb2 HB.out.size⟩
          · have HN := Lib.hid (hVS rfl)
            clear hVS hVB
            go_wp2_with (go_at_call 52; refine HM.out.mono ?_; rintro e w2 ⟨rfl, hb2⟩)
            go_roundw
            case rel => exact ⟨k + 1, by omega, by go_num, HN, below_add HB.out hb2 HB.out.size⟩
            case measure => simp [intOf]; omega
        · obtain rfl : k = xs.length := by omega
          have HB := Lib.hid hb
          have H5 := Lib.hid (wf_good HRL.out.1 HRL.out.2 (okV_end HP.out))
          clear hb
          go_wp2_with fail
          go_loopw [6] (fun s6 wr => ∃ k : Nat, k ≤ xs.length ∧ s6 = .int .i64 k ∧ Hid (okF5 ks (xs.take k) = true) ∧ Below w.heap.size w wr) (fun s6 _ => xs.length - (intOf s6).toNat)
          case atStart => exact ⟨0, Nat.zero_le _, rfl, Lib.hid rfl, HB.out⟩
          case round =>
            obtain ⟨k, hk, rfl, HP, hb⟩ := hrel
            by_cases hlt : k < xs.length
            · have hAT := (HAT.out k hlt).below hb hbl
              have hw := HWA.out _ (List.getElem_mem hlt)
              have hz := HSZ.out _ (List.getElem_mem hlt)
              have HF := Lib.hid (fun w1 (h1 : Below w.heap.size w w1) => rfits_any p ks xs[k].key xs[k].k xs[k].n xs[k].f xs[k].s w1 (HS.out.below h1 (Nat.le_refl _)) hw.f0 hw.f1 hz)
              have hFS := fun h => okF_step hlt HP.out h
              have hFB := fun h => may_4 H5.out (okF_bad (ks := ks) hlt h)
              clear hw hz
              generalize xs[k] = x at *
              obtain ⟨x1, x2, x3, x4, x5⟩ := x
              simp only at HF hFS hFB
              generalize fitsB ks x1 x2 x3 x4 x5 = m at *
              have HBR := Lib.hid hb
              have HC0 := Lib.hid (show AtC b1 (o1 + k * 5) ⟨x1, x2, x3, x4, x5⟩ wr wr from ⟨hAT, Below.refl _ _⟩)
              have KF := Lib.hid (fun w9 (hS : AtC b1 (o1 + k * 5) ⟨x1, x2, x3, x4, x5⟩ wr w9) => (HF.out w9 (below_add HBR.out hS.2 HBR.out.size)).mono fun e w' (h : _ ∧ _) => (⟨h.1, hS.below h.2⟩ : _ ∧ AtC b1 (o1 + k * 5) ⟨x1, x2, x3, x4, x5⟩ wr w'))
              clear hb hAT HF
              go_wp2_with fail
              refine region_classw (C := AtC b1 (o1 + k * 5) ⟨x1, x2, x3, x4, x5⟩ wr) (by kernel_rfl) (by kernel_rfl) (HC0.out.below (Below.refl _ _).drew) ?_
              repeat (first
                | (refine w_skip (by rfl) (by rfl) ?_
                   simp only [Act.put, List.setIfInBounds_toArray, List.set_cons_zero, List.set_cons_succ])
                | (first
                     | refine w_val (v := ?_) (by rfl) (fun w9 hS => ?_) ?_
                     | refine w_valg (v := ?_) (by rfl) (by rfl) (fun w9 hS => ?_) ?_
                   rotate_left
                   · obtain ⟨⟨g0, g1, g2, g3, g4⟩, -⟩ := hS
                     go_simp
                     try with_reducible rfl
                   simp only [Act.put, List.setIfInBounds_toArray, List.set_cons_zero, List.set_cons_succ])
                | (first
                     | refine w_call (by rfl) (fun w9 hS => ?_) KF.out ?_
                     | refine w_callg (by rfl) (by rfl) (fun w9 hS => ?_) KF.out ?_
                   · obtain ⟨⟨g0, g1, g2, g3, g4⟩, -⟩ := hS
                     go_simp
                   simp only [Act.put, List.setIfInBounds_toArray, List.set_cons_zero, List.set_cons_succ]))
              refine w_end ?_
              intro w5 T5
              cases m
              · have HN := Lib.hid (hFB rfl)
                clear hFS hFB
                go_wp2_with fail
                go_ret
                exact ⟨ret_may HN.out.symm, below_add HBR.out T5.2 HBR.out.size⟩
              · have HN := Lib.hid (hFS rfl)
                have HT := Lib.hid T5.2
                clear hFS hFB
                go_wp2_with fail
                go_roundw
                case rel => exact ⟨k + 1, by omega, by go_num, HN, below_add HBR.out HT.out HBR.out.size⟩
                case measure => simp [intOf]; omega
            · obtain rfl : k = xs.length := by omega
              have HB := Lib.hid hb
              have HG := Lib.hid (may_0 H5.out (okF_end HP.out))
              clear hb
              go_wp2
              go_ret
              exact ⟨ret_may HG.out.symm, HB.out⟩
    · obtain rfl : xs = [] := List.eq_nil_of_length_eq_zero (by omega)
      clear hv h0 hl hW hs hS HRL
      go_enter Try.func37, Try.ntmps37
      go_wp2_with (go_at_call 51; refine HRI.out.mono ?_; rintro e w1 ⟨rfl, q, rfl⟩)
      refine wp_loop_rounds 1 ?_
      rw [rounds_succ]
      go_wp2
      refine wp_loop_rounds 1 ?_
      rw [rounds_succ]
      go_wp2
      go_ret
      exact ⟨rfl, blw_drewN (Below.refl _ _) q⟩
  · rw [decide_eq_false hr] at hri
    have HRI := Lib.hid hri
    have HN := Lib.hid (may_3 (ks := ks) (wf_badR hr))
    obtain ⟨a1, cap1, rfl⟩ := hv.shape
    clear hri hv hs hW hS hr
    go_enter Try.func37, Try.ntmps37
    go_wp2_with (go_at_call 51; refine HRI.out.mono ?_; rintro e w1 ⟨rfl, q, rfl⟩)
    go_ret
    exact ⟨ret_may HN.out.symm, blw_drewN (Below.refl _ _) q⟩
end Go.Proofs.Ytnggnfhaokkcmaa

/- C1: changes as plain data -/
namespace Go.Proofs.Ytnggnfhaokkcmaa
open Go.RowKit
set_option linter.unusedVariables false

/-- A change: its key, whether it is gone, and the value's kind, number, bits, text. -/
structure Chg where
  key : Int
  g : Bool
  k : Int
  n : Int
  f : Int
  s : ByteArray
deriving DecidableEq

@[reducible] def cv (a : Chg) : Value := .agg #[.int .i64 a.key, .bool a.g, .int .u8 a.k, .int .i64 a.n, .int .u64 a.f, .string a.s]
@[reducible] def cc (a : Chg) : List Value := [.int .i64 a.key, .bool a.g, .int .u8 a.k, .int .i64 a.n, .int .u64 a.f, .string a.s]
@[reducible] def cca (a : Chg) : Array Value := #[.int .i64 a.key, .bool a.g, .int .u8 a.k, .int .i64 a.n, .int .u64 a.f, .string a.s]
@[reducible] def noChg : Chg := ⟨0, false, 0, 0, 0, ⟨#[]⟩⟩
instance : Inhabited Chg := ⟨noChg⟩

theorem cc_one (a : Chg) : ∀ u ∈ cc a, u.oneCell' = true := by
  intro u hu
  simp at hu
  rcases hu with rfl | rfl | rfl | rfl | rfl | rfl <;> rfl
/-- How a change lies: six cells. -/
def chC : Cel Chg := ⟨cc, 6, fun _ => rfl, cc_one, by decide⟩
theorem chC_m : chC.m = 6 := rfl
theorem chC_c (a : Chg) : chC.c a = cc a := rfl

/-- What a change's numbers are within. -/
structure ChgW (a : Chg) : Prop where
  key : (Lit.int .i64 a.key).wf = true
  k : (Lit.int .u8 a.k).wf = true
  n : (Lit.int .i64 a.n).wf = true
  f : (Lit.int .u64 a.f).wf = true
  s : a.s.size ≤ maxLen
theorem ChgW.f0 {a : Chg} (h : ChgW a) : 0 ≤ a.f := by have := Go.bounds_u64 h.f; omega
theorem ChgW.f1 {a : Chg} (h : ChgW a) : a.f < 18446744073709551616 := by have := Go.bounds_u64 h.f; omega

/-- Its six cells at a place; at a block's head. -/
@[reducible] def CAt (b o : Nat) (a : Chg) (w : World) : Prop :=
  w.cell? ⟨b, o, none⟩ = some (.int .i64 a.key) ∧ w.cell? ⟨b, o + 1, none⟩ = some (.bool a.g) ∧ w.cell? ⟨b, o + 2, none⟩ = some (.int .u8 a.k) ∧ w.cell? ⟨b, o + 3, none⟩ = some (.int .i64 a.n) ∧ w.cell? ⟨b, o + 4, none⟩ = some (.int .u64 a.f) ∧ w.cell? ⟨b, o + 5, none⟩ = some (.string a.s)
@[reducible] def CBox (b : Nat) (a : Chg) (w : World) : Prop :=
  w.cell? ⟨b, 0, none⟩ = some (.int .i64 a.key) ∧ w.cell? ⟨b, 1, none⟩ = some (.bool a.g) ∧ w.cell? ⟨b, 2, none⟩ = some (.int .u8 a.k) ∧ w.cell? ⟨b, 3, none⟩ = some (.int .i64 a.n) ∧ w.cell? ⟨b, 4, none⟩ = some (.int .u64 a.f) ∧ w.cell? ⟨b, 5, none⟩ = some (.string a.s)
theorem CAt.below {B b o : Nat} {a : Chg} {w w' : World} (h : CAt b o a w) (hb : Below B w w') (hB : b < B) : CAt b o a w' := by
  obtain ⟨h0, h1, h2, h3, h4, h5⟩ := h
  exact ⟨(hb.cell (p := ⟨b, _, none⟩) hB).trans h0, (hb.cell (p := ⟨b, _, none⟩) hB).trans h1, (hb.cell (p := ⟨b, _, none⟩) hB).trans h2, (hb.cell (p := ⟨b, _, none⟩) hB).trans h3, (hb.cell (p := ⟨b, _, none⟩) hB).trans h4, (hb.cell (p := ⟨b, _, none⟩) hB).trans h5⟩
theorem CBox.below {B b : Nat} {a : Chg} {w w' : World} (h : CBox b a w) (hb : Below B w w') (hB : b < B) : CBox b a w' := by
  obtain ⟨h0, h1, h2, h3, h4, h5⟩ := h
  exact ⟨(hb.cell (p := ⟨b, _, none⟩) hB).trans h0, (hb.cell (p := ⟨b, _, none⟩) hB).trans h1, (hb.cell (p := ⟨b, _, none⟩) hB).trans h2, (hb.cell (p := ⟨b, _, none⟩) hB).trans h3, (hb.cell (p := ⟨b, _, none⟩) hB).trans h4, (hb.cell (p := ⟨b, _, none⟩) hB).trans h5⟩
theorem CBox.box (a : Chg) (w : World) (t : TypeId) : CBox w.heap.size a (w.alloc (.cells (cca a) t)) := by
  refine ⟨?_, ?_, ?_, ?_, ?_, ?_⟩ <;> (rw [cell_of_row _ w.heap.size _ _ t (0, 0) (heap_alloc_new w _)]; rfl)
theorem CBox.lt {b : Nat} {a : Chg} {w : World} (h : CBox b a w) : b < w.heap.size := World.block_lt_of_cell? w _ h.1
theorem CAt.lt {b o : Nat} {a : Chg} {w : World} (h : CAt b o a w) : b < w.heap.size := World.block_lt_of_cell? w _ h.1

/-- A slice of changes that reads as xs. -/
@[reducible] def Crow (w : World) (v : Value) (xs : List Chg) : Prop := Row chC w v xs
theorem Crow.opn {w : World} {a : Option Addr} {n cap : Nat} {xs : List Chg} (h : Crow w (.slice a n cap) xs) (h0 : 0 < xs.length) :
    ∃ b off, a = some ⟨b, off, none⟩ ∧ n = xs.length ∧ xs.length ≤ cap ∧ cap ≤ maxLen ∧ b < w.heap.size ∧ (∀ j (hj : j < xs.length), CAt b (off + j * 6) xs[j] w) := by
  obtain ⟨b, off, ha, hn, hc, hm, hb, hat, -⟩ := Row.opened h h0
  refine ⟨b, off, ha, hn, hc, hm, hb, fun j hj => ⟨?_, ?_, ?_, ?_, ?_, ?_⟩⟩
  · exact hat j hj 0 _ rfl
  · exact hat j hj 1 _ rfl
  · exact hat j hj 2 _ rfl
  · exact hat j hj 3 _ rfl
  · exact hat j hj 4 _ rfl
  · exact hat j hj 5 _ rfl

set_option maxRecDepth 100000 in
theorem info_ch : ∃ i0, Try.prog.info? 41 = some i0 ∧ i0.zero = some (cv noChg) ∧ i0.size = 6 ∧ i0.bytes = 56 := by
  refine ⟨_, rfl, ?_, ?_, ?_⟩ <;> kernel_rfl
set_option maxRecDepth 100000 in
theorem info_at : ∃ i0, Try.prog.info? 39 = some i0 ∧ i0.zero = some (av noAtt) ∧ i0.size = 5 ∧ i0.bytes = 48 := by
  refine ⟨_, rfl, ?_, ?_, ?_⟩ <;> kernel_rfl

def ceq (a b : Chg) : Bool := (a.key == b.key) && ((a.g == b.g) && ((a.k == b.k) && (a.n == b.n) && (a.f == b.f) && (a.s.toList == b.s.toList)))
theorem ceq_iff (a b : Chg) : ceq a b = true ↔ a = b := by
  obtain ⟨a1, a0, a2, a3, a4, a5⟩ := a
  obtain ⟨b1, b0, b2, b3, b4, b5⟩ := b
  have hs : a5.toList = b5.toList ↔ a5 = b5 := by
    rw [ByteArray.toList_eq, ByteArray.toList_eq]
    exact ⟨fun h => Go.WideShapes.bytes_inj h, fun h => by rw [h]⟩
  simp [ceq, hs, and_assoc]
theorem ceq_dec (a b : Chg) : ceq a b = decide (a = b) := by
  rw [Bool.eq_iff_iff, ceq_iff]; simp

set_option maxRecDepth 100000 in
set_option maxHeartbeats 800000 in
theorem chg_in (a b : Chg) (w : World) : (Op.equalIn 10000 41 (cv a) (cv b)).run Try.prog w = .ok (ceq a b) w := by
  obtain ⟨a1, a0, a2, a3, a4, a5⟩ := a
  obtain ⟨b1, b0, b2, b3, b4, b5⟩ := b
  have hS : Try.prog.underlying 41 = some (.struct (Try.prog.fieldsOf 41)) := by kernel_rfl
  have hp : Try.prog.stoodInHeld 41 = false := by kernel_rfl
  have u0 := Try.underlying3
  have ag0 := Try.isAgg3
  have ag4 := Try.isAgg4
  have ag5 := Try.isAgg37
  have z0 := Try.sizeOf3
  have z4 := Try.sizeOf4
  have z5 := Try.sizeOf37
  rw [show (10000 : Nat) = 9999 + 1 from rfl, run_equalIn_agg w 9999 41 _ _ hS hp]
  simp only [Program.fieldsOf, Try.underlying41]
  simp only [Op.eqFields, ne_eq]
  go_simp
  unfold ceq
  by_cases h1 : a1 = b1 <;> by_cases h0 : a0 = b0 <;> by_cases h2 : a2 = b2 <;> by_cases h3 : a3 = b3 <;> by_cases h4 : a4 = b4 <;> by_cases h5 : a5.toList = b5.toList <;> simp [h1, h0, h2, h3, h4, h5]
theorem chg_eql (a b : Chg) (w : World) : (binOp .eql 41 (cv a) (cv b)).run Try.prog w = .ok (.bool (ceq a b)) w := by
  rw [run_eql_struct, chg_in]; rfl
theorem chg_neq (a b : Chg) (w : World) : (binOp .neq 41 (cv a) (cv b)).run Try.prog w = .ok (.bool (!ceq a b)) w := by
  rw [run_neq_struct, chg_in]; rfl

/-- An attribute as a change, and back. -/
@[reducible] def toC (a : Att) : Chg := ⟨a.key, false, a.k, a.n, a.f, a.s⟩
@[reducible] def toA (c : Chg) : Att := ⟨c.key, c.k, c.n, c.f, c.s⟩
/-- A new row of one, of two. -/
theorem crow_one (w : World) (x : Chg) (t : TypeId) : Crow (w.alloc (.cells (cca x) t)) (.slice (some ⟨w.heap.size, 0, none⟩) 1 1) [x] := Row.built (C := chC) w t [x] (by unfold maxLen; simp)
theorem crow_two (w : World) (x y : Chg) (t : TypeId) : Crow (w.alloc (.cells (cca x ++ cca y) t)) (.slice (some ⟨w.heap.size, 0, none⟩) 2 2) [x, y] := Row.built (C := chC) w t [x, y] (by unfold maxLen; simp)
end Go.Proofs.Ytnggnfhaokkcmaa

/- C3: what the closures do to the list that they put to -/
namespace Go.Proofs.Ytnggnfhaokkcmaa
open Go.RowKit
set_option linter.unusedVariables false

theorem below_ad (W : World) (ob : Obj) : Below W.heap.size W (W.alloc ob).drew := ((Below.refl _ _).alloc (Nat.le_refl _) ob).drew
end Go.Proofs.Ytnggnfhaokkcmaa

/- C4: Compose, Less; what Diff does with two rows -/
namespace Go.Proofs.Ytnggnfhaokkcmaa
open Go.RowKit Go.Shelf
set_option linter.unusedVariables false

/-- A list of changes that the call made. -/
@[reducible] def Own6 (w w' : World) (u : Value) (ls : List Chg) : Prop := w'.ownsRow w.heap.size 41 6 u ls.length (fl chC ls)
theorem own6_row {w w' : World} {u : Value} {ls : List Chg} (h : Own6 w w' u ls) : Crow w' u ls := (Row.of_owns h).1

end Go.Proofs.Ytnggnfhaokkcmaa

/- C5: a set as a patch, a patch as a set; Diff, Apply, Invert -/
namespace Go.Proofs.Ytnggnfhaokkcmaa
open Go.RowKit
set_option linter.unusedVariables false

theorem crow_new0 (w : World) (a : Chg) (t : TypeId) : Crow (w.alloc (.cells (cca a) t)) (.slice (some ⟨w.heap.size, 0, none⟩) 1 1) [a] := crow_one w a t
theorem crow_new1 (w : World) (o : Obj) (a : Chg) (t : TypeId) : Crow ((w.alloc o).alloc (.cells (cca a) t)) (.slice (some ⟨w.heap.size + 1, 0, none⟩) 1 1) [a] := by
  have h := crow_new0 (w.alloc o) a t
  simp only [World.size_alloc] at h
  exact h
theorem tsnoc {α : Type} {xs : List α} {k : Nat} (h : k < xs.length) : xs.take (k + 1) = xs.take k ++ [xs[k]] := List.take_succ_eq_append_getElem h
theorem tend {α : Type} (xs : List α) : xs.take xs.length = xs := List.take_of_length_le (Nat.le_refl _)
def ats (xs : List Chg) : List Att := (xs.filter fun c => !c.g).map toA
end Go.Proofs.Ytnggnfhaokkcmaa

/- C6: patches held against one another; rising; Clone, Copy -/
namespace Go.Proofs.Ytnggnfhaokkcmaa
open Go.RowKit
set_option linter.unusedVariables false

theorem ceq_step {xs ys : List Chg} {k : Nat} (h1 : k < xs.length) (h2 : k < ys.length) (h : xs.take k = ys.take k) (he : xs[k] = ys[k]) : xs.take (k + 1) = ys.take (k + 1) := by
  rw [tsnoc h1, tsnoc h2, h, he]
theorem ceq_end {xs ys : List Chg} (hl : xs.length = ys.length) (h : xs.take xs.length = ys.take xs.length) : xs = ys := by
  rw [List.take_of_length_le (Nat.le_refl _), hl, List.take_of_length_le (Nat.le_refl _)] at h; exact h
theorem ceq_bad {xs ys : List Chg} {k : Nat} (h1 : k < xs.length) (h2 : k < ys.length) (he : ¬ xs[k] = ys[k]) : ¬ xs = ys := by
  intro h; subst h; exact he rfl

set_option maxRecDepth 100000 in
theorem cequal_any (v1 v2 : Value) (xs ys : List Chg) (w : World) (h1 : Crow w v1 xs) (h2 : Crow w v2 ys) :
    Calls Try.prog 60 #[v1, v2] w fun e w' => e = .returned (.bool (decide (xs = ys))) ∧ ∃ q, w' = w.drewN q := by
  have hl1 := h1.len
  have hl2 := h2.len
  obtain ⟨a1, cap1, rfl⟩ := h1.shape
  obtain ⟨a2, cap2, rfl⟩ := h2.shape
  by_cases hl : xs.length = ys.length
  · by_cases h0 : 0 < xs.length
    · obtain ⟨b1, o1, rfl, -, -, -, -, hat1⟩ := Crow.opn h1 h0
      obtain ⟨b2, o2, rfl, -, -, -, -, hat2⟩ := Crow.opn h2 (by omega)
      clear h1 h2
      have H1 := Lib.hid hat1
      have H2 := Lib.hid hat2
      have HL := Lib.hid hl
      clear hat1 hat2
      rw [← hl]
      clear hl hl2
      go_enter Try.func60, Try.ntmps60
      go_wp2
      go_loopw [13] (fun i wr => ∃ k q : Nat, k ≤ xs.length ∧ i = .int .i64 k ∧ wr = w.drewN q ∧ Hid (xs.take k = ys.take k)) (fun i _ => xs.length - (intOf i).toNat)
      case atStart => exact ⟨0, 0, Nat.zero_le _, rfl, rfl, Lib.hid rfl⟩
      case round =>
        obtain ⟨k, q, hk, rfl, rfl, HP⟩ := hrel
        by_cases hlt : k < xs.length
        · have hlt2 : k < ys.length := by rw [← HL.out]; exact hlt
          obtain ⟨c0, c1, c2, c3, c4, c5⟩ := H1.out k hlt
          obtain ⟨d0, d1, d2, d3, d4, d5⟩ := H2.out k hlt2
          have hS := fun h => ceq_step hlt hlt2 HP.out h
          have hE := fun h => ceq_bad hlt hlt2 h
          have hD : ceq xs[k] ys[k] = decide (xs[k] = ys[k]) := ceq_dec _ _
          have hq := fun w => chg_neq xs[k] ys[k] w
          generalize xs[k] = x at *
          generalize ys[k] = y at *
          by_cases hxy : x = y
          · have HS := Lib.hid (hS hxy)
            have e1 : ceq x y = true := by rw [hD]; simp [hxy]
            rw [e1] at hq
            obtain ⟨x1, x0, x2, x3, x4, x5⟩ := x
            obtain ⟨y1, y0, y2, y3, y4, y5⟩ := y
            clear hS hE hD e1 hxy
            simp only at c0 c1 c2 c3 c4 c5 d0 d1 d2 d3 d4 d5 hq
            go_wp2
            go_quiet (fail)
            go_wp2
            go_roundw
            case rel => exact ⟨k + 1, q + nq, by omega, by go_num, by simp, HS⟩
            case measure => simp [intOf]; omega
          · have HS := Lib.hid (hE hxy)
            have e1 : ceq x y = false := by rw [hD]; simp [hxy]
            rw [e1] at hq
            obtain ⟨x1, x0, x2, x3, x4, x5⟩ := x
            obtain ⟨y1, y0, y2, y3, y4, y5⟩ := y
            clear hS hE hD e1 hxy
            simp only at c0 c1 c2 c3 c4 c5 d0 d1 d2 d3 d4 d5 hq
            go_wp2
            go_quiet (fail)
            go_wp2
            go_ret
            exact ⟨dec_no HS.out, q + nq, by simp⟩
        · obtain rfl : k = xs.length := by omega
          have HE := Lib.hid (ceq_end HL.out HP.out)
          clear HP
          go_wp2
          go_ret
          exact ⟨dec_yes HE.out, _, rfl⟩
    · obtain rfl : xs = [] := List.eq_nil_of_length_eq_zero (by omega)
      obtain rfl : ys = [] := List.eq_nil_of_length_eq_zero (by simpa using hl.symm)
      clear h1 h2 h0 hl hl1 hl2
      go_enter Try.func60, Try.ntmps60
      go_wp2
      refine wp_loop_rounds 1 ?_
      rw [rounds_succ]
      go_wp2
      go_ret
      exact ⟨rfl, 0, rfl⟩
  · have HN := Lib.hid (show ¬ xs = ys from fun h => hl (by rw [h]))
    have e1 : ((xs.length : Int) != (ys.length : Int)) = true := by simp; omega
    clear h1 h2
    go_enter Try.func60, Try.ntmps60
    go_wp2
    go_ret
    exact ⟨dec_no HN.out, 0, rfl⟩

theorem same_any6 (v1 v2 : Value) (xs ys : List Chg) (w : World) (h1 : Crow w v1 xs) (h2 : Crow w v2 ys) :
    Calls Try.prog 49 #[v1, v2] w fun e w' => e = .returned (.bool (decide (xs = ys))) ∧ Below w.heap.size w w' := by
  have HE := Lib.hid (cequal_any v1 v2 xs ys w h1 h2)
  clear h1 h2
  go_enter Try.func49, Try.ntmps49
  go_wp2_with (go_at_call 60; ((with_reducible refine HE.out.mono ?_); rintro e w1 ⟨rfl, q, rfl⟩))
  go_ret
  exact ⟨rfl, blw_drewN (Below.refl _ _) q⟩
set_option maxRecDepth 100000 in
theorem rsame_any6 (v1 v2 : Value) (xs ys : List Chg) (w : World) (h1 : Crow w v1 xs) (h2 : Crow w v2 ys) :
    Calls Try.prog 31 #[v1, v2] w fun e w' => e = .returned (.bool (decide (xs = ys))) ∧ ∃ q, w' = w.drewN q := by
  have hl1 := h1.len
  have hl2 := h2.len
  obtain ⟨a1, cap1, rfl⟩ := h1.shape
  obtain ⟨a2, cap2, rfl⟩ := h2.shape
  by_cases hl : xs.length = ys.length
  · by_cases h0 : 0 < xs.length
    · obtain ⟨b1, o1, rfl, -, -, -, -, hat1⟩ := Crow.opn h1 h0
      obtain ⟨b2, o2, rfl, -, -, -, -, hat2⟩ := Crow.opn h2 (by omega)
      clear h1 h2
      have H1 := Lib.hid hat1
      have H2 := Lib.hid hat2
      have HL := Lib.hid hl
      clear hat1 hat2
      rw [← hl]
      clear hl hl2
      go_enter Try.func31, Try.ntmps31
      go_wp2
      go_loopw [5] (fun i wr => ∃ k q : Nat, k ≤ xs.length ∧ i = .int .i64 k ∧ wr = w.drewN q ∧ Hid (xs.take k = ys.take k)) (fun i _ => xs.length - (intOf i).toNat)
      case atStart => exact ⟨0, 0, Nat.zero_le _, rfl, rfl, Lib.hid rfl⟩
      case round =>
        obtain ⟨k, q, hk, rfl, rfl, HP⟩ := hrel
        by_cases hlt : k < xs.length
        · have hlt2 : k < ys.length := by rw [← HL.out]; exact hlt
          obtain ⟨c0, c1, c2, c3, c4, c5⟩ := H1.out k hlt
          obtain ⟨d0, d1, d2, d3, d4, d5⟩ := H2.out k hlt2
          have hS := fun h => ceq_step hlt hlt2 HP.out h
          have hE := fun h => ceq_bad hlt hlt2 h
          have hD : ceq xs[k] ys[k] = decide (xs[k] = ys[k]) := ceq_dec _ _
          have hq := fun w => chg_neq xs[k] ys[k] w
          generalize xs[k] = x at *
          generalize ys[k] = y at *
          by_cases hxy : x = y
          · have HS := Lib.hid (hS hxy)
            have e1 : ceq x y = true := by rw [hD]; simp [hxy]
            rw [e1] at hq
            obtain ⟨x1, x0, x2, x3, x4, x5⟩ := x
            obtain ⟨y1, y0, y2, y3, y4, y5⟩ := y
            clear hS hE hD e1 hxy
            simp only at c0 c1 c2 c3 c4 c5 d0 d1 d2 d3 d4 d5 hq
            go_wp2
            go_quiet (fail)
            go_wp2
            go_roundw
            case rel => exact ⟨k + 1, q + nq, by omega, by go_num, by simp, HS⟩
            case measure => simp [intOf]; omega
          · have HS := Lib.hid (hE hxy)
            have e1 : ceq x y = false := by rw [hD]; simp [hxy]
            rw [e1] at hq
            obtain ⟨x1, x0, x2, x3, x4, x5⟩ := x
            obtain ⟨y1, y0, y2, y3, y4, y5⟩ := y
            clear hS hE hD e1 hxy
            simp only at c0 c1 c2 c3 c4 c5 d0 d1 d2 d3 d4 d5 hq
            go_wp2
            go_quiet (fail)
            go_wp2
            go_ret
            exact ⟨dec_no HS.out, q + nq, by simp⟩
        · obtain rfl : k = xs.length := by omega
          have HE := Lib.hid (ceq_end HL.out HP.out)
          clear HP
          go_wp2
          go_ret
          exact ⟨dec_yes HE.out, _, rfl⟩
    · obtain rfl : xs = [] := List.eq_nil_of_length_eq_zero (by omega)
      obtain rfl : ys = [] := List.eq_nil_of_length_eq_zero (by simpa using hl.symm)
      clear h1 h2 h0 hl hl1 hl2
      go_enter Try.func31, Try.ntmps31
      go_wp2
      refine wp_loop_rounds 1 ?_
      rw [rounds_succ]
      go_wp2
      go_ret
      exact ⟨rfl, 0, rfl⟩
  · have HN := Lib.hid (show ¬ xs = ys from fun h => hl (by rw [h]))
    have e1 : ((xs.length : Int) != (ys.length : Int)) = true := by simp; omega
    clear h1 h2
    go_enter Try.func31, Try.ntmps31
    go_wp2
    go_ret
    exact ⟨dec_no HN.out, 0, rfl⟩


/-- Keys rise. -/
def RiseC (xs : List Chg) : Prop := xs.Pairwise (fun a b => a.key < b.key)
instance (xs : List Chg) : Decidable (RiseC xs) := by unfold RiseC; infer_instance
theorem crise_nil : RiseC [] := List.Pairwise.nil
theorem crise_step {xs : List Chg} {k : Nat} (h : k + 1 < xs.length) (hr : RiseC (xs.take (k + 1))) (hl : xs[k].key < xs[k + 1].key) : RiseC (xs.take (k + 1 + 1)) := by
  rw [tsnoc h]
  refine List.pairwise_append.2 ⟨hr, by simp, fun a ha b hb => ?_⟩
  simp at hb
  subst hb
  rw [tsnoc (by omega : k < xs.length)] at ha hr
  rcases List.mem_append.1 ha with ha | ha
  · have := (List.pairwise_append.1 hr).2.2 a ha xs[k] (by simp)
    omega
  · simp at ha; subst ha; exact hl
theorem crise_bad {xs : List Chg} {k : Nat} (h : k + 1 < xs.length) (hl : ¬ xs[k].key < xs[k + 1].key) : ¬ RiseC xs := fun hr =>
  hl (List.pairwise_iff_getElem.1 hr k (k + 1) (by omega) h (by omega))
theorem crise_end {xs : List Chg} (hr : RiseC (xs.take xs.length)) : RiseC xs := by rwa [List.take_of_length_le (Nat.le_refl _)] at hr
theorem crise_one {xs : List Chg} : RiseC (xs.take (0 + 1)) := by
  cases xs with
  | nil => exact crise_nil
  | cons x r => simp [RiseC]

set_option maxRecDepth 100000 in
theorem rising_any6 (v : Value) (xs : List Chg) (w : World) (h1 : Crow w v xs) :
    Calls Try.prog 54 #[v] w fun e w' => e = .returned (.bool (decide (RiseC xs))) ∧ ∃ q, w' = w.drewN q := by
  have hl1 := h1.len
  obtain ⟨a1, cap1, rfl⟩ := h1.shape
  by_cases h0 : 0 < xs.length
  · obtain ⟨b1, o1, rfl, -, -, -, -, hat1⟩ := Crow.opn h1 h0
    clear h1
    have H1 := Lib.hid hat1
    clear hat1
    go_enter Try.func54, Try.ntmps54
    go_wp2
    go_loopw [3] (fun i wr => ∃ k q : Nat, k + 1 ≤ xs.length ∧ i = .int .i64 ((k : Int) + 1) ∧ wr = w.drewN q ∧ Hid (RiseC (xs.take (k + 1)))) (fun i _ => xs.length - (intOf i).toNat)
    case atStart => exact ⟨0, 0, h0, rfl, rfl, Lib.hid crise_one⟩
    case round =>
      obtain ⟨k, q, hk, rfl, rfl, HP⟩ := hrel
      by_cases hlt : k + 1 < xs.length
      · obtain ⟨c0, -, -, -, -, -⟩ := H1.out k (by omega)
        obtain ⟨d0, -, -, -, -, -⟩ := H1.out (k + 1) hlt
        have hS := fun h => crise_step hlt HP.out h
        have hB := fun h => crise_bad hlt h
        generalize xs[k].key = x at *
        generalize xs[k + 1].key = y at *
        by_cases hxy : x < y
        · have HS := Lib.hid (hS hxy)
          have e1 : decide (y ≤ x) = false := by rw [decide_eq_false_iff_not]; omega
          clear hS hB hxy
          go_wp2
          go_quiet (fail)
          go_wp2
          go_roundw
          case rel => exact ⟨k + 1, q + nq, by omega, by go_num, by simp, HS⟩
          case measure => simp [intOf]; omega
        · have HS := Lib.hid (hB hxy)
          have e1 : decide (y ≤ x) = true := by rw [decide_eq_true_iff]; omega
          clear hS hB hxy
          go_wp2
          go_quiet (fail)
          go_wp2
          go_ret
          exact ⟨dec_no HS.out, q + nq, by simp⟩
      · have hkk : xs.length = k + 1 := by omega
        have HE := Lib.hid (crise_end (by rw [hkk]; exact HP.out))
        clear HP
        go_wp2
        go_ret
        exact ⟨dec_yes HE.out, _, rfl⟩
  · obtain rfl : xs = [] := List.eq_nil_of_length_eq_zero (by omega)
    clear h1 h0 hl1
    go_enter Try.func54, Try.ntmps54
    go_wp2
    refine wp_loop_rounds 1 ?_
    rw [rounds_succ]
    go_wp2
    go_ret
    exact ⟨rfl, 0, rfl⟩
theorem own6_nil (w0 w : World) : Own6 w0 w (.slice none 0 0) [] := World.ownsRow_nil _ _ _ _
theorem cnil_eql (a : Option Addr) (l c : Nat) (w : World) : (binOp .eql 32 (.slice a l c) (.slice none 0 0)).run Try.prog w = .ok (.bool a.isNone) w := by
  simp only [binOp, Sem.run_bind, run_equal_slice_nil w 32 41 a l c Try.underlying32, Result.andThen_ok, Sem.run_pure]

set_option maxRecDepth 100000 in
theorem clone_any6 (v : Value) (xs : List Chg) (w : World) (hv : Crow w v xs) (hl : xs.length * 56 ≤ 140737488355328) :
    Calls Try.prog 46 #[v] w fun e w' => ∃ u, e = .returned u ∧ Own6 w w' u xs ∧ Below w.heap.size w w' := by
  obtain ⟨i0, hi, hz0, hz1, hz2⟩ := info_ch
  have HV := Lib.hid hv
  have hnil := fun a l c w => cnil_eql a l c w
  obtain ⟨a, cap, rfl⟩ := hv.shape
  cases a with
  | none =>
    obtain ⟨rfl, rfl⟩ : xs = [] ∧ cap = 0 := by
      rcases hv with ⟨_, _, h, hx, _, h0⟩ | ⟨_, _, _, h, _⟩
      · injection h with h1 _ h3; subst hx; exact ⟨rfl, by rw [h3]; exact h0 h1.symm⟩
      · injection h with h1; cases h1
    clear hv HV
    go_enter Try.func46, Try.ntmps46
    go_wp2
    go_ret
    exact ⟨_, rfl, own6_nil _ _, Below.refl _ _⟩
  | some a =>
    clear hv
    have hB := (Below.refl w.heap.size w).alloc (Nat.le_refl _) (.cells #[] 41)
    go_enter Try.func46, Try.ntmps46
    go_wp2_with (at_builtin; refine wpList_append_row (C := chC) rfl (.tmp 5) (.tmp 6) 32 rfl w.heap.size 41 i0 (cv noChg) 56 Try.underlying32 hi hz0 hz1 hz2 rfl _ 0 [] rfl (owns_none w 41 6) _ xs rfl (HV.out.below hB (Nat.le_refl _)) (by unfold maxLen; omega) (by omega) (by simp) ?_; intro v3 w3 hown3 hgrow3)
    go_ret
    refine ⟨_, rfl, ?_, hB.grown hgrow3 (by simp) (fun j hj => own_base (owns_none w 41 6) hj)⟩
    have h : w3.ownsRow w.heap.size 41 chC.m v3 (0 + xs.length) ([] ++ fl chC xs) := hown3
    rw [Nat.zero_add, List.nil_append] at h
    exact h

end Go.Proofs.Ytnggnfhaokkcmaa

/- C8: wellFormed -/
namespace Go.Proofs.Ytnggnfhaokkcmaa
open Go.RowKit
set_option linter.unusedVariables false

theorem vneq (k n f k' n' f' : Int) (s s' : ByteArray) (w : World) :
    (binOp .neq 37 (val k n f s) (val k' n' f' s')).run Try.prog w = .ok (.bool (!((k == k') && (n == n') && (f == f') && (s.toList == s'.toList)))) w := by
  have h := val_eql k n f k' n' f' s s' w
  rw [run_eql_struct] at h
  rw [run_neq_struct]
  revert h
  generalize (Op.equalIn 10000 37 (val k n f s) (val k' n' f' s')).run Try.prog w = r
  cases r <;> intro h <;> simp [Result.andThen] at h ⊢
  obtain ⟨h1, h2⟩ := h
  simp [h1, h2]
/-- Is a change's value zero? -/
def zv (c : Chg) : Bool := (c.k == 0) && (c.n == 0) && (c.f == 0) && (c.s.toList == (⟨#[]⟩ : ByteArray).toList)
def gOk (c : Chg) : Bool := !c.g || zv c
def wf6 (xs : List Chg) : Bool := decide (RiseC xs) && decide (xs.length ≤ 64) && xs.all gOk
theorem wf6_badR {xs : List Chg} (h : ¬ RiseC xs) : wf6 xs = false := by unfold wf6; rw [decide_eq_false h]; rfl
theorem wf6_badL {xs : List Chg} (h : 64 < xs.length) : wf6 xs = false := by unfold wf6; rw [show decide (xs.length ≤ 64) = false by rw [decide_eq_false_iff_not]; omega]; simp
theorem wf6_good {xs : List Chg} (h1 : RiseC xs) (h2 : xs.length ≤ 64) (h3 : xs.all gOk = true) : wf6 xs = true := by unfold wf6; rw [decide_eq_true h1, decide_eq_true h2, h3]; rfl
end Go.Proofs.Ytnggnfhaokkcmaa

/- C9: May, the reference's Find -/
namespace Go.Proofs.Ytnggnfhaokkcmaa
open Go.RowKit
set_option linter.unusedVariables false

/-- Is each key one of the schema's? -/
def isIn (ks : List Key) (c : Chg) : Bool := (fnd ks c.key).isSome
def may6 (ks : List Key) (xs : List Chg) : Int := if wf6 xs && okV (ats xs) then (if okF5 ks (ats xs) && xs.all (isIn ks) then 0 else 4) else 3
theorem may6_bad {ks : List Key} {xs : List Chg} (h : wf6 xs = false) : may6 ks xs = 3 := by unfold may6; rw [h]; rfl
end Go.Proofs.Ytnggnfhaokkcmaa

/- C11: the reference's May -/
namespace Go.Proofs.Ytnggnfhaokkcmaa
open Go.RowKit
set_option linter.unusedVariables false

def rOk (c : Chg) : Bool := if c.g then zv c else vmay c.k c.n c.f c.s
def rFit (ks : List Key) (c : Chg) : Bool := isIn ks c && (c.g || fitsB ks c.key c.k c.n c.f c.s)
theorem rok_all (xs : List Chg) : xs.all rOk = (xs.all gOk && okV (ats xs)) := by
  induction xs with
  | nil => rfl
  | cons x r ih =>
    have e : ats (x :: r) = if x.g then ats r else toA x :: ats r := by unfold ats; cases h : x.g <;> simp [h]
    rw [e, List.all_cons, ih]
    unfold rOk gOk okV
    cases h : x.g <;> simp [h, Bool.and_left_comm, Bool.and_assoc]
theorem fits_isIn {ks : List Key} {c : Chg} (h : fitsB ks c.key c.k c.n c.f c.s = true) : isIn ks c = true := by
  unfold isIn
  cases hf : fnd ks c.key with
  | none => rw [fitsB_none hf] at h; cases h
  | some k => rfl
theorem rfit_all (ks : List Key) (xs : List Chg) : xs.all (rFit ks) = (okF5 ks (ats xs) && xs.all (isIn ks)) := by
  induction xs with
  | nil => rfl
  | cons x r ih =>
    have e : ats (x :: r) = if x.g then ats r else toA x :: ats r := by unfold ats; cases h : x.g <;> simp [h]
    rw [e, List.all_cons, ih]
    unfold rFit okF5
    cases h : x.g
    · cases hf : fitsB ks x.key x.k x.n x.f x.s
      · simp [hf]
      · simp [hf, fits_isIn hf]
    · simp [Bool.and_left_comm]
theorem may6_bad2 {ks : List Key} {xs : List Chg} (h : xs.all rOk = false) : may6 ks xs = 3 := by
  rw [rok_all] at h
  unfold may6 wf6
  cases h1 : xs.all gOk
  · simp
  · rw [h1, Bool.true_and] at h; simp [h]
theorem may6_rest {ks : List Key} {xs : List Chg} (h1 : RiseC xs) (h2 : xs.length ≤ 64) (h3 : xs.all rOk = true) : may6 ks xs = if xs.all (rFit ks) then 0 else 4 := by
  rw [rok_all, Bool.and_eq_true] at h3
  unfold may6
  rw [wf6_good h1 h2 h3.1, h3.2, rfit_all]
  rfl
theorem rok_step {xs : List Chg} {k : Nat} (h : k < xs.length) (hp : (xs.take k).all rOk = true) (hx : rOk xs[k] = true) : (xs.take (k + 1)).all rOk = true := by rw [tsnoc h, List.all_append, hp]; simpa using hx
theorem rok_bad {xs : List Chg} {k : Nat} (h : k < xs.length) (hx : rOk xs[k] = false) : xs.all rOk = false := by rw [List.all_eq_false]; exact ⟨_, List.getElem_mem h, by rw [hx]; exact Bool.false_ne_true⟩
theorem rfit_step {ks : List Key} {xs : List Chg} {k : Nat} (h : k < xs.length) (hp : (xs.take k).all (rFit ks) = true) (hx : rFit ks xs[k] = true) : (xs.take (k + 1)).all (rFit ks) = true := by rw [tsnoc h, List.all_append, hp]; simpa using hx
theorem rfit_bad {ks : List Key} {xs : List Chg} {k : Nat} (h : k < xs.length) (hx : rFit ks xs[k] = false) : xs.all (rFit ks) = false := by rw [List.all_eq_false]; exact ⟨_, List.getElem_mem h, by rw [hx]; exact Bool.false_ne_true⟩

/-- The worlds of the reference's test. -/
def CtC (b o : Nat) (x : Chg) (W W' : World) : Prop := CAt b o x W' ∧ Below W.heap.size W W'
theorem CtC.below {b o : Nat} {x : Chg} {W w w' : World} (h : CtC b o x W w) (hb : Below w.heap.size w w') : CtC b o x W w' :=
  ⟨h.1.below hb h.1.lt, below_add h.2 hb h.2.size⟩

set_option maxRecDepth 100000 in
set_option maxHeartbeats 2000000 in
theorem rmay_any6 (p : Value) (ks : List Key) (v : Value) (xs : List Chg) (w : World) (hs : Krow w p ks) (hv : Crow w v xs) (hW : ∀ a ∈ xs, ChgW a) (hS : xs.length ≤ 64 → ∀ a ∈ xs, a.s.size ≤ 1048576) :
    Calls Try.prog 38 #[p, v] w fun e w' => e = .returned (.int .i64 (may6 ks xs)) ∧ Below w.heap.size w w' := by
  have hl := hv.len
  have hri := rising_any6 v xs w hv
  by_cases hr : RiseC xs
  · rw [decide_eq_true hr] at hri
    have HRI := Lib.hid hri
    clear hri
    by_cases hlong : 64 < xs.length
    · have HN := Lib.hid (may6_bad (ks := ks) (wf6_badL hlong))
      have d1 : decide ((64 : Int) < (xs.length : Int)) = true := by rw [decide_eq_true_iff]; omega
      obtain ⟨a1, cap1, rfl⟩ := hv.shape
      clear hv hs hW hS hr hlong
      go_enter Try.func38, Try.ntmps38
      go_wp2_with (go_at_call 54; refine HRI.out.mono ?_; rintro e w1 ⟨rfl, q, rfl⟩)
      go_ret
      exact ⟨ret_may HN.out.symm, blw_drewN (Below.refl _ _) q⟩
    have d1 : decide ((64 : Int) < (xs.length : Int)) = false := by rw [decide_eq_false_iff_not]; omega
    have HRL := Lib.hid (show RiseC xs ∧ xs.length ≤ 64 from ⟨hr, by omega⟩)
    have hS := hS (by omega)
    clear hr hlong
    obtain ⟨a1, cap1, rfl⟩ := hv.shape
    by_cases h0 : 0 < xs.length
    · obtain ⟨b1, o1, rfl, -, -, -, hbl, hat⟩ := Crow.opn hv h0
      have HAT := Lib.hid hat
      have HWA := Lib.hid hW
      have HSZ := Lib.hid hS
      have HS := Lib.hid hs
      clear hv hat hW hs hS
      go_enter Try.func38, Try.ntmps38
      go_wp2_with (go_at_call 54; refine HRI.out.mono ?_; rintro e w1 ⟨rfl, q, rfl⟩)
      go_loopw [5] (fun s5 wr => ∃ k : Nat, k ≤ xs.length ∧ s5 = .int .i64 k ∧ Hid ((xs.take k).all rOk = true) ∧ Below w.heap.size w wr) (fun s5 _ => xs.length - (intOf s5).toNat)
      case atStart => exact ⟨0, Nat.zero_le _, rfl, Lib.hid rfl, blw_drewN (Below.refl _ _) q⟩
      case round =>
        obtain ⟨k, hk, rfl, HP, hb⟩ := hrel
        by_cases hlt : k < xs.length
        · obtain ⟨c0, c1, c2, c3, c4, c5⟩ := (HAT.out k hlt).below hb hbl
          have hw := HWA.out _ (List.getElem_mem hlt)
          have hz := HSZ.out _ (List.getElem_mem hlt)
          have HM := Lib.hid (rvmay_any xs[k].k xs[k].n xs[k].f xs[k].s wr hw.f0 hw.f1 hz)
          have hNQ := fun w => vneq xs[k].k xs[k].n xs[k].f 0 0 0 xs[k].s ⟨#[]⟩ w
          have hZ : zv xs[k] = ((xs[k].k == 0) && (xs[k].n == 0) && (xs[k].f == 0) && (xs[k].s.toList == (⟨#[]⟩ : ByteArray).toList)) := rfl
          have hG : rOk xs[k] = if xs[k].g then zv xs[k] else vmay xs[k].k xs[k].n xs[k].f xs[k].s := rfl
          rw [← hZ] at hNQ
          have hVS := fun h => rok_step hlt HP.out h
          have hVB := fun h => may6_bad2 (ks := ks) (rok_bad hlt h)
          rw [hG] at hVS hVB
          have HB := Lib.hid hb
          clear hw hz hb hG hZ
          generalize zv xs[k] = z at *
          generalize xs[k] = x at *
          obtain ⟨x1, x0, x2, x3, x4, x5⟩ := x
          simp only at c0 c1 c2 c3 c4 c5 HM hVS hVB hNQ
          generalize vmay x2 x3 x4 x5 = m at *
          cases x0
          · clear hNQ
            cases m
            · have HN := Lib.hid (hVB rfl)
              clear hVS hVB
              go_wp2_with (go_at_call 52; refine HM.out.mono ?_; rintro e w2 ⟨rfl, hb2⟩)
              go_ret
              exact ⟨ret_may HN.out.symm, below_add HB.out hb2 HB.out.size⟩
            · have HN := Lib.hid (hVS rfl)
              clear hVS hVB
              go_wp2_with (go_at_call 52; refine HM.out.mono ?_; rintro e w2 ⟨rfl, hb2⟩)
              go_roundw
              case rel => exact ⟨k + 1, by omega, by go_num, HN, below_add HB.out hb2 HB.out.size⟩
              case measure => simp [intOf]; omega
          · cases z
            · have HN := Lib.hid (hVB rfl)
              clear hVS hVB HM
              go_wp2
              go_ret
              exact ⟨ret_may HN.out.symm, HB.out⟩
            · have HN := Lib.hid (hVS rfl)
              clear hVS hVB HM
              go_wp2
              go_roundw
              case rel => exact ⟨k + 1, by omega, by go_num, HN, HB.out⟩
              case measure => simp [intOf]; omega
        · obtain rfl : k = xs.length := by omega
          have HB := Lib.hid hb
          have hp := HP.out
          rw [tend] at hp
          have H6 := Lib.hid (may6_rest (ks := ks) HRL.out.1 HRL.out.2 hp)
          clear hb hp
          go_wp2_with fail
          go_loopw [6] (fun s6 wr => ∃ k : Nat, k ≤ xs.length ∧ s6 = .int .i64 k ∧ Hid ((xs.take k).all (rFit ks) = true) ∧ Below w.heap.size w wr) (fun s6 _ => xs.length - (intOf s6).toNat)
          case atStart => exact ⟨0, Nat.zero_le _, rfl, Lib.hid rfl, HB.out⟩
          case round =>
            obtain ⟨k, hk, rfl, HP, hb⟩ := hrel
            by_cases hlt : k < xs.length
            · have hAT := (HAT.out k hlt).below hb hbl
              have hw := HWA.out _ (List.getElem_mem hlt)
              have hz := HSZ.out _ (List.getElem_mem hlt)
              have HFT := Lib.hid (fun w1 (h1 : Below w.heap.size w w1) => rfits_any p ks xs[k].key xs[k].k xs[k].n xs[k].f xs[k].s w1 (HS.out.below h1 (Nat.le_refl _)) hw.f0 hw.f1 hz)
              have HFD := Lib.hid (fun w1 (h1 : Below w.heap.size w w1) => rfind_any p ks xs[k].key w1 (HS.out.below h1 (Nat.le_refl _)))
              have hFS := fun h => rfit_step (ks := ks) hlt HP.out h
              have hFB := fun h => (by rw [H6.out, rfit_bad (ks := ks) hlt h]; rfl : may6 ks xs = 4)
              have hRF : rFit ks xs[k] = ((fnd ks xs[k].key).isSome && (xs[k].g || fitsB ks xs[k].key xs[k].k xs[k].n xs[k].f xs[k].s)) := rfl
              rw [hRF] at hFS hFB
              clear hw hz hRF
              generalize xs[k] = x at *
              have HAT2 := Lib.hid hAT
              have HBR := Lib.hid hb
              have hsz := hb.size
              obtain ⟨x1, x0, x2, x3, x4, x5⟩ := x
              simp only at HFT HFD hFS hFB
              obtain ⟨c0, c1, c2, c3, c4, c5⟩ := hAT
              simp only at c0 c1 c2 c3 c4 c5
              have h3 := HFD.out wr HBR.out
              clear HFD hb
              generalize fitsB ks x1 x2 x3 x4 x5 = m at *
              cases hf : fnd ks x1 with
              | none =>
                rw [fndV_none hf] at h3
                have HF3 := Lib.hid h3
                have HN := Lib.hid (hFB (by rw [hf]; rfl))
                clear hFS hFB h3 hf HFT
                go_wp2_with (go_at_call 55; refine HF3.out.mono ?_; rintro e w2 ⟨rfl, hb2⟩)
                have hb9 := below_add HBR.out hb2 HBR.out.size
                have HB9 := Lib.hid (hb9.alloc hb9.size (.cells (kca noKey) 61))
                have hC0 := HAT2.out.below (hb2.alloc hb2.size (.cells (kca noKey) 61)) HAT2.out.lt
                generalize hW9 : w2.alloc (.cells _ 61) = W9 at *
                clear hb9 hb2 c0 c1 c2 c3 c4 c5 hW9
                obtain ⟨c0, c1, c2, c3, c4, c5⟩ := hC0
                simp only at c0 c1 c2 c3 c4 c5
                go_quiet (fail)
                go_wp2
                go_ret
                exact ⟨ret_may HN.out.symm, blw_drewN HB9.out _⟩
              | some key =>
                rw [fndV_some hf] at h3
                have HF3 := Lib.hid h3
                rw [hf] at hFS hFB
                simp only [Option.isSome_some, Bool.true_and] at hFS hFB
                clear h3 hf
                obtain ⟨y1, y2, y3, y4, y5, y6⟩ := key
                cases x0
                · simp only [Bool.false_or] at hFS hFB
                  go_wp2_with (go_at_call 55; refine HF3.out.mono ?_; rintro e w2 ⟨rfl, hb2⟩)
                  have hb9 := below_add HBR.out hb2 HBR.out.size
                  have HB9 := Lib.hid (hb9.alloc hb9.size (.cells (kca ⟨y1, y2, y3, y4, y5, y6⟩) 61))
                  have hC0 := HAT2.out.below (hb2.alloc hb2.size (.cells (kca ⟨y1, y2, y3, y4, y5, y6⟩) 61)) HAT2.out.lt
                  generalize hW9 : w2.alloc (.cells _ 61) = W9 at *
                  clear hb9 hb2 c0 c1 c2 c3 c4 c5 hW9
                  have HC0 := Lib.hid (show CtC b1 (o1 + k * 6) ⟨x1, false, x2, x3, x4, x5⟩ W9 W9 from ⟨hC0, Below.refl _ _⟩)
                  have KF := Lib.hid (fun w9 (hS : CtC b1 (o1 + k * 6) ⟨x1, false, x2, x3, x4, x5⟩ W9 w9) => (HFT.out w9 (below_add HB9.out hS.2 HB9.out.size)).mono fun e w' (h : _ ∧ _) => (⟨h.1, hS.below h.2⟩ : _ ∧ CtC b1 (o1 + k * 6) ⟨x1, false, x2, x3, x4, x5⟩ W9 w'))
                  clear hC0 HFT
                  refine region_classw (C := CtC b1 (o1 + k * 6) ⟨x1, false, x2, x3, x4, x5⟩ W9) (by kernel_rfl) (by kernel_rfl) (HC0.out.below (Below.refl _ _).drew) ?_
                  repeat (first
                    | (refine w_skip (by rfl) (by rfl) ?_
                       simp only [Act.put, List.setIfInBounds_toArray, List.set_cons_zero, List.set_cons_succ])
                    | (first
                         | refine w_val (v := ?_) (by rfl) (fun w9 hS => ?_) ?_
                         | refine w_valg (v := ?_) (by rfl) (by rfl) (fun w9 hS => ?_) ?_
                       rotate_left
                       · obtain ⟨⟨g0, g1, g2, g3, g4, g5⟩, -⟩ := hS
                         go_simp
                         try with_reducible rfl
                       simp only [Act.put, List.setIfInBounds_toArray, List.set_cons_zero, List.set_cons_succ])
                    | (first
                         | refine w_call (by rfl) (fun w9 hS => ?_) KF.out ?_
                         | refine w_callg (by rfl) (by rfl) (fun w9 hS => ?_) KF.out ?_
                       · obtain ⟨⟨g0, g1, g2, g3, g4, g5⟩, -⟩ := hS
                         go_simp
                       simp only [Act.put, List.setIfInBounds_toArray, List.set_cons_zero, List.set_cons_succ]))
                  refine w_end ?_
                  intro w5 T5
                  cases m
                  · have HN := Lib.hid (hFB rfl)
                    clear hFS hFB
                    go_wp2_with fail
                    go_ret
                    exact ⟨ret_may HN.out.symm, below_add HB9.out T5.2 HB9.out.size⟩
                  · have HN := Lib.hid (hFS rfl)
                    have HT := Lib.hid T5.2
                    clear hFS hFB
                    go_wp2_with fail
                    go_roundw
                    case rel => exact ⟨k + 1, by omega, by go_num, HN, below_add HB9.out HT.out HB9.out.size⟩
                    case measure => simp [intOf]; omega
                · have HN := Lib.hid (hFS (by simp))
                  clear hFS hFB HFT
                  go_wp2_with (go_at_call 55; refine HF3.out.mono ?_; rintro e w2 ⟨rfl, hb2⟩)
                  have hb9 := below_add HBR.out hb2 HBR.out.size
                  have HB9 := Lib.hid (hb9.alloc hb9.size (.cells (kca ⟨y1, y2, y3, y4, y5, y6⟩) 61))
                  have hC0 := HAT2.out.below (hb2.alloc hb2.size (.cells (kca ⟨y1, y2, y3, y4, y5, y6⟩) 61)) HAT2.out.lt
                  generalize hW9 : w2.alloc (.cells _ 61) = W9 at *
                  clear hb9 hb2 c0 c1 c2 c3 c4 c5 hW9
                  obtain ⟨c0, c1, c2, c3, c4, c5⟩ := hC0
                  simp only at c0 c1 c2 c3 c4 c5
                  go_quiet (fail)
                  go_wp2
                  go_roundw
                  case rel => exact ⟨k + 1, by omega, by go_num, HN, blw_drewN HB9.out _⟩
                  case measure => simp [intOf]; omega
            · obtain rfl : k = xs.length := by omega
              have HB := Lib.hid hb
              have hp := HP.out
              rw [tend] at hp
              have HG := Lib.hid (show may6 ks xs = 0 by rw [H6.out, hp]; rfl)
              clear hb hp
              go_wp2
              go_ret
              exact ⟨ret_may HG.out.symm, HB.out⟩
    · obtain rfl : xs = [] := List.eq_nil_of_length_eq_zero (by omega)
      have HG := Lib.hid (show may6 ks [] = 0 by rw [may6_rest HRL.out.1 HRL.out.2 rfl]; rfl)
      clear hv h0 hl hW hs hS HRL
      go_enter Try.func38, Try.ntmps38
      go_wp2_with (go_at_call 54; refine HRI.out.mono ?_; rintro e w1 ⟨rfl, q, rfl⟩)
      refine wp_loop_rounds 1 ?_
      rw [rounds_succ]
      go_wp2
      refine wp_loop_rounds 1 ?_
      rw [rounds_succ]
      go_wp2
      go_ret
      exact ⟨ret_may HG.out.symm, blw_drewN (Below.refl _ _) q⟩
  · rw [decide_eq_false hr] at hri
    have HRI := Lib.hid hri
    have HN := Lib.hid (may6_bad (ks := ks) (wf6_badR hr))
    obtain ⟨a1, cap1, rfl⟩ := hv.shape
    clear hri hv hs hW hS hr
    go_enter Try.func38, Try.ntmps38
    go_wp2_with (go_at_call 54; refine HRI.out.mono ?_; rintro e w1 ⟨rfl, q, rfl⟩)
    go_ret
    exact ⟨ret_may HN.out.symm, blw_drewN (Below.refl _ _) q⟩
end Go.Proofs.Ytnggnfhaokkcmaa

/- C12: great -/
namespace Go.Proofs.Ytnggnfhaokkcmaa
open Go.RowKit
set_option linter.unusedVariables false

/-- How much there is. -/
def sizeC (p : List Chg) : Nat := (p.map fun c => c.s.size).sum
def sizeA (a : List Att) : Nat := (a.map fun c => c.s.size).sum
def totC (p : List Chg) : Nat := p.length + sizeC p
def totA (a : List Att) : Nat := a.length + sizeA a
end Go.Proofs.Ytnggnfhaokkcmaa

/- A18: attributes, and slices of them, that came in -/
namespace Go.Proofs.Ytnggnfhaokkcmaa
open Go.RowKit Go.ChangeShapes Go.WideShapes Go.Deep
set_option linter.unusedVariables false

section
variable {H : Type} {enc : TypeId × Value → H} {w : World} {base : Nat} {spare : Nat → Bool} {held : Bool}

theorem att_fields : Try.prog.underlying 39 = some (.struct (Try.prog.fieldsOf 39)) := by kernel_rfl
theorem att_cells : Try.prog.cellsOf 39 = 5 := by kernel_rfl
theorem att_types : (Try.prog.fieldsOf 39).map (fun f => (f.type, f.offset)) = #[(3, 0), (37, 1)] := by kernel_rfl
theorem att_size : (Try.prog.fieldsOf 39).size = 2 := by kernel_rfl
theorem int_cells5 : Try.prog.cellsOf 3 = 1 := by kernel_rfl
theorem value_cells5 : Try.prog.cellsOf 37 = 4 := by kernel_rfl
theorem value_fields5 : Try.prog.underlying 37 = some (.struct (Try.prog.fieldsOf 37)) := by kernel_rfl
theorem value_one5 : oneCellFields Try.prog (Try.prog.fieldsOf 37) = true := by kernel_rfl
theorem value_types5 : (Try.prog.fieldsOf 37).map (·.type) = #[5, 2, 35, 9] := by kernel_rfl
theorem value_size5 : (Try.prog.fieldsOf 37).size = 4 := by kernel_rfl

end
end Go.Proofs.Ytnggnfhaokkcmaa

/- C14: changes and attributes that came in, and what they weigh -/
namespace Go.Proofs.Ytnggnfhaokkcmaa
open Go.RowKit Go.ChangeShapes Go.WideShapes Go.Deep
set_option linter.unusedVariables false

section
variable {H : Type} {enc : TypeId × Value → H} {w : World} {base : Nat} {spare : Nat → Bool} {held : Bool}

/-- The datum of a change, of an attribute. -/
def vD (k n f : Int) (s : ByteArray) : DataW H := .agg [.lit (.int .u8 k), .lit (.int .i64 n), .lit (.int .u64 f), .lit (.string s.data.toList)]
def chD (a : Chg) : DataW H := .agg [.lit (.int .i64 a.key), .lit (.bool a.g), vD a.k a.n a.f a.s]
def atD (a : Att) : DataW H := .agg [.lit (.int .i64 a.key), vD a.k a.n a.f a.s]

theorem ch_fields : Try.prog.underlying 41 = some (.struct (Try.prog.fieldsOf 41)) := by kernel_rfl
theorem ch_cells : Try.prog.cellsOf 41 = 6 := by kernel_rfl
theorem ch_types : (Try.prog.fieldsOf 41).map (fun f => (f.type, f.offset)) = #[(3, 0), (4, 1), (37, 2)] := by kernel_rfl
theorem ch_size : (Try.prog.fieldsOf 41).size = 3 := by kernel_rfl
theorem bool_cells6 : Try.prog.cellsOf 4 = 1 := by kernel_rfl
theorem ch_bytes : Try.prog.bytesOf 41 = 56 := by kernel_rfl
set_option maxRecDepth 100000 in
theorem open_val6 {n : Nat} {cs : List Value} {y : DataW H × List MemPlace} (h : DataW.trod enc Try.prog w base spare held n 37 cs = some y) :
    ∃ (k n' f : Int) (s : ByteArray), (Lit.int .u8 k).wf = true ∧ (Lit.int .i64 n').wf = true ∧ (Lit.int .u64 f).wf = true ∧ s.size ≤ maxLen ∧ cs = [.int .u8 k, .int .i64 n', .int .u64 f, .string s] ∧ y.1 = vD k n' f s := by
  obtain ⟨ys, m, -, hy, hlen, hys, hf⟩ := DataW.trod_struct value_fields5 h
  rw [value_cells5] at hlen
  rw [value_size5] at hys
  have hj : ∀ (j : Nat) (t : TypeId), (#[5, 2, 35, 9] : Array TypeId)[j]? = some t → DataW.trod enc Try.prog w base spare held m t ((cs.drop j).take 1) = ys[j]? := by
    intro j t hjt
    rw [← value_types5, Array.getElem?_map, Option.map_eq_some_iff] at hjt
    obtain ⟨f, hfj, rfl⟩ := hjt
    obtain ⟨ho, hk⟩ := hone_of value_one5 j f hfj
    have := hf j f hfj
    rwa [ho, hk] at this
  clear hf h
  match cs, hlen with
  | [c0, c1, c2, c3], _ =>
    match ys, hys with
    | [y0, y1, y2, y3], _ =>
      have h0 : DataW.trod enc Try.prog w base spare held m 5 [c0] = some y0 := hj 0 _ rfl
      have h1 : DataW.trod enc Try.prog w base spare held m 2 [c1] = some y1 := hj 1 _ rfl
      have h2 : DataW.trod enc Try.prog w base spare held m 35 [c2] = some y2 := hj 2 _ rfl
      have h3 : DataW.trod enc Try.prog w base spare held m 9 [c3] = some y3 := hj 3 _ rfl
      obtain ⟨a0, e0, rfl, w0⟩ := DataW.trod_int Try.underlying5 h0
      obtain ⟨a1, e1, rfl, w1⟩ := DataW.trod_int Try.underlying2 h1
      obtain ⟨a2, e2, rfl, w2⟩ := DataW.trod_int Try.underlying35 h2
      obtain ⟨a3, e3, rfl, w3⟩ := DataW.trod_string Try.underlying9 h3
      simp only [List.cons.injEq, and_true] at e0 e1 e2 e3
      subst e0 e1 e2 e3
      exact ⟨a0, a1, a2, a3, w0, w1, w2, w3, rfl, by rw [hy]; rfl⟩

set_option maxRecDepth 100000 in
theorem open_att6 {n : Nat} {cs : List Value} {y : DataW H × List MemPlace} (h : DataW.trod enc Try.prog w base spare held n 39 cs = some y) : ∃ a : Att, AttW a ∧ cs = ac a ∧ y.1 = atD a := by
  obtain ⟨ys, m, -, hy, hlen, hys, hf⟩ := DataW.trod_struct att_fields h
  rw [att_cells] at hlen
  rw [att_size] at hys
  have hj : ∀ (j : Nat) (t : TypeId) (o : Nat), (#[(3, 0), (37, 1)] : Array (TypeId × Nat))[j]? = some (t, o) → DataW.trod enc Try.prog w base spare held m t ((cs.drop o).take (Try.prog.cellsOf t)) = ys[j]? := by
    intro j t o hjt
    rw [← att_types, Array.getElem?_map, Option.map_eq_some_iff] at hjt
    obtain ⟨f, hfj, e⟩ := hjt
    simp only [Prod.mk.injEq] at e
    obtain ⟨rfl, rfl⟩ := e
    exact hf j f hfj
  clear hf h
  match cs, hlen with
  | [c0, c1, c2, c3, c4], _ =>
    match ys, hys with
    | [y0, y1], _ =>
      have h0 := hj 0 3 0 rfl
      have h1 := hj 1 37 1 rfl
      rw [int_cells5] at h0
      rw [value_cells5] at h1
      have h0' : DataW.trod enc Try.prog w base spare held m 3 [c0] = some y0 := h0
      have h1' : DataW.trod enc Try.prog w base spare held m 37 [c1, c2, c3, c4] = some y1 := h1
      obtain ⟨a0, e0, rfl, w0⟩ := DataW.trod_int Try.underlying3 h0'
      obtain ⟨k, n', f, s, w1, w2, w3, w4, e1, hd⟩ := open_val6 h1'
      simp only [List.cons.injEq, and_true] at e0 e1
      obtain ⟨rfl, rfl, rfl, rfl⟩ := e1
      subst e0
      exact ⟨⟨a0, k, n', f, s⟩, ⟨w0, w1, w2, w3, w4⟩, rfl, by rw [hy]; simp [atD, hd]⟩

set_option maxRecDepth 100000 in
theorem open_chg6 {n : Nat} {cs : List Value} {y : DataW H × List MemPlace} (h : DataW.trod enc Try.prog w base spare held n 41 cs = some y) : ∃ a : Chg, ChgW a ∧ cs = cc a ∧ y.1 = chD a := by
  obtain ⟨ys, m, -, hy, hlen, hys, hf⟩ := DataW.trod_struct ch_fields h
  rw [ch_cells] at hlen
  rw [ch_size] at hys
  have hj : ∀ (j : Nat) (t : TypeId) (o : Nat), (#[(3, 0), (4, 1), (37, 2)] : Array (TypeId × Nat))[j]? = some (t, o) → DataW.trod enc Try.prog w base spare held m t ((cs.drop o).take (Try.prog.cellsOf t)) = ys[j]? := by
    intro j t o hjt
    rw [← ch_types, Array.getElem?_map, Option.map_eq_some_iff] at hjt
    obtain ⟨f, hfj, e⟩ := hjt
    simp only [Prod.mk.injEq] at e
    obtain ⟨rfl, rfl⟩ := e
    exact hf j f hfj
  clear hf h
  match cs, hlen with
  | [c0, cb, c1, c2, c3, c4], _ =>
    match ys, hys with
    | [y0, yb, y1], _ =>
      have h0 := hj 0 3 0 rfl
      have hb := hj 1 4 1 rfl
      have h1 := hj 2 37 2 rfl
      rw [int_cells5] at h0
      rw [bool_cells6] at hb
      rw [value_cells5] at h1
      have h0' : DataW.trod enc Try.prog w base spare held m 3 [c0] = some y0 := h0
      have hb' : DataW.trod enc Try.prog w base spare held m 4 [cb] = some yb := hb
      have h1' : DataW.trod enc Try.prog w base spare held m 37 [c1, c2, c3, c4] = some y1 := h1
      obtain ⟨a0, e0, rfl, w0⟩ := DataW.trod_int Try.underlying3 h0'
      obtain ⟨ab, eb, rfl⟩ := DataW.trod_bool Try.underlying4 hb'
      obtain ⟨k, n', f, s, w1, w2, w3, w4, e1, hd⟩ := open_val6 h1'
      simp only [List.cons.injEq, and_true] at e0 eb e1
      obtain ⟨rfl, rfl, rfl, rfl⟩ := e1
      subst e0 eb
      exact ⟨⟨a0, ab, k, n', f, s⟩, ⟨w0, w1, w2, w3, w4⟩, rfl, by rw [hy]; simp [chD, hd]⟩

set_option maxRecDepth 100000 in
/-- A slice that came in, of whatever lies as C says. -/
theorem open_rows {α : Type} (C : Cel α) (W : α → Prop) (D : α → DataW H) {t e : TypeId} (ht : Try.prog.underlying t = some (.slice e)) (hcell : Try.prog.cellsOf e = C.m)
    (hop : ∀ {n : Nat} {cs : List Value} {y : DataW H × List MemPlace}, DataW.trod enc Try.prog w base spare held n e cs = some y → ∃ a : α, W a ∧ cs = C.c a ∧ y.1 = D a)
    {n : Nat} {v : Value} {x : DataW H × List MemPlace} (h : DataW.trod enc Try.prog w base spare held n t [v] = some x) :
    ∃ xs : List α, Row C w v xs ∧ (∀ a ∈ xs, W a) ∧ (x.1 = .nil ∧ xs = [] ∨ ∃ sp, x.1 = .slice (xs.map D) sp) := by
  rcases open_slice ht h with ⟨hcs, hx⟩ | ⟨a, len, cap, m, n', Dt, Pl, hcs, -, hl, hm, hmm, hx, hi⟩
  · injection hcs with hv _
    subst hv
    exact ⟨[], Row.nil w, by simp, .inl ⟨by rw [hx], rfl⟩⟩
  · injection hcs with hv _
    subst hv
    have hlm : len ≤ m := by rw [hmm]; split <;> omega
    have hex : ∀ i, i < len → ∃ k : α, W k ∧ (∀ j u, (C.c k)[j]? = some u → w.cell? (a.add (i * C.m + j)) = some u) ∧ Dt i = D k := by
      intro i hil
      obtain ⟨cs', hc, ht⟩ := hi i (by omega)
      obtain ⟨k, hw, rfl, hd⟩ := hop ht
      rw [hcell] at hc
      obtain ⟨-, hcl, hat⟩ := World.cells?_some hc
      refine ⟨k, hw, fun j u hu => ?_, hd⟩
      have hj : j < C.m := by have := (List.getElem?_eq_some_iff.1 hu).1; rwa [C.len] at this
      have := hat j hj
      rw [hu, add_add] at this
      exact this
    have hex2 : ∀ i : Fin len, ∃ k : α, W k ∧ (∀ j u, (C.c k)[j]? = some u → w.cell? (a.add (i.1 * C.m + j)) = some u) ∧ Dt i.1 = D k := fun i => hex i.1 i.2
    obtain ⟨f, hf⟩ := Classical.axiomOfChoice hex2
    have hlen : (List.ofFn f).length = len := by simp
    refine ⟨List.ofFn f, ?_, fun k hk => ?_, .inr ⟨(List.range (m - len)).map fun j => Dt (len + j), ?_⟩⟩
    · by_cases h0 : len = 0
      · subst h0
        exact .inl ⟨some a, cap, rfl, by simp, hm, by simp⟩
      · obtain ⟨b, off, spot⟩ := a
        have hspot : spot = none := by
          have hp : 0 < (C.c (f ⟨0, by omega⟩)).length := by rw [C.len]; exact C.pos
          have := (hf ⟨0, by omega⟩).2.1 0 _ (List.getElem?_eq_getElem hp)
          simpa [Addr.add] using World.cell?_spot this
        subst hspot
        refine .inr ⟨b, off, cap, by rw [hlen], by omega, by omega, hm, fun j u hu => ?_⟩
        have hjl : j < len * C.m := by
          have := (List.getElem?_eq_some_iff.1 hu).1
          rwa [fl_len, hlen] at this
        have hd : j / C.m < len := Nat.div_lt_of_lt_mul (by rw [Nat.mul_comm]; exact hjl)
        have e1 : j / C.m * C.m + j % C.m = j := by rw [Nat.mul_comm]; exact Nat.div_add_mod j C.m
        have g := fl_get C (List.ofFn f) (j / C.m) (j % C.m) (by omega) (Nat.mod_lt _ C.pos)
        rw [e1, hu] at g
        have := (hf ⟨j / C.m, hd⟩).2.1 (j % C.m) u (by rw [g]; simp)
        rw [e1, Go.WideShapes.add_plain] at this
        exact this
    · obtain ⟨i, rfl⟩ := List.mem_ofFn.1 hk
      exact (hf i).1
    · rw [hx]
      show DataW.slice ((List.range len).map Dt) _ = DataW.slice _ _
      congr 1
      apply List.ext_getElem
      · simp
      · intro i h1 h2
        simp at h1
        simp [(hf ⟨i, h1⟩).2.2]

/-- What a slice of changes, of attributes, that came in is. -/
def InC (d : DataW H) (xs : List Chg) : Prop := d = .nil ∧ xs = [] ∨ ∃ sp, d = .slice (xs.map chD) sp
def InA (d : DataW H) (xs : List Att) : Prop := d = .nil ∧ xs = [] ∨ ∃ sp, d = .slice (xs.map atD) sp
set_option maxRecDepth 100000 in
theorem open_chs {n : Nat} {v : Value} {x : DataW H × List MemPlace} (h : DataW.trod enc Try.prog w base spare held n 32 [v] = some x) : ∃ xs, Crow w v xs ∧ (∀ a ∈ xs, ChgW a) ∧ InC x.1 xs :=
  open_rows chC ChgW chD Try.underlying32 ch_cells (fun h => open_chg6 h) h
set_option maxRecDepth 100000 in
theorem open_ats {n : Nat} {v : Value} {x : DataW H × List MemPlace} (h : DataW.trod enc Try.prog w base spare held n 31 [v] = some x) : ∃ xs, Arow w v xs ∧ (∀ a ∈ xs, AttW a) ∧ InA x.1 xs :=
  open_rows attC AttW atD Try.underlying31 att_cells (fun h => open_att6 h) h

set_option maxRecDepth 100000 in
/-- What they weigh: how many places, how long each text. -/
theorem sized_C {ts : List TypeId} {ds : List (DataW H)} (h : (DataW.weightsEach Try.prog ts ds).all (· ≤ reachBytes) = true) {j : Nat} {d : DataW H} {xs : List Chg} (hd : InC d xs) (ht : ts[j]? = some 32) (hj : ds[j]? = some d) :
    xs.length * 56 ≤ 140737488355328 ∧ ∀ c ∈ xs, c.s.size ≤ 140737488355328 := by
  have h2 := reachBytes_lt
  rcases hd with ⟨-, rfl⟩ | ⟨sp, rfl⟩
  · simp
  · have hu := Try.underlying32
    refine ⟨?_, fun c hc => ?_⟩
    · have := sized_slice h ht hj hu
      rw [ch_bytes, List.length_map] at this
      have h3 : xs.length * 56 ≤ (xs.length + sp.length) * 56 := Nat.mul_le_mul_right _ (by omega)
      omega
    · have hin : ∀ (l : List Chg), c ∈ l → c.s.data.toList.length ∈ DataW.weightsAll Try.prog 41 (l.map (chD (H := H))) := by
        intro l hl
        induction l with
        | nil => cases hl
        | cons x r ih =>
          simp only [List.map_cons, DataW.weightsAll, List.mem_append]
          rcases List.mem_cons.1 hl with rfl | hl
          · left
            simp [chD, vD, DataW.weights, DataW.weightsEach, Try.underlying41, Try.underlying37]
          · exact .inr (ih hl)
      have h4 := List.all_eq_true.1 h _ (DataW.weights_mem_each ht hj c.s.data.toList.length (by simp only [DataW.weights, hu, List.mem_cons, List.mem_append]; exact .inr (.inl (hin xs hc))))
      simp at h4
      omega

/-- What they are of bulk. -/
theorem bulk_C (xs : List Chg) : totC xs ≤ Rows.uptoBulkAll (xs.map (chD (H := H))) := by
  induction xs with
  | nil => simp [totC, sizeC, Rows.uptoBulkAll]
  | cons x r ih =>
    have e : totC (x :: r) = totC r + (1 + x.s.size) := by simp [totC, sizeC]; omega
    have e2 : x.s.data.toList.length = x.s.size := by rw [Array.length_toList]; rfl
    rw [e, List.map_cons, Rows.uptoBulkAll]
    simp only [chD, vD, Rows.uptoBulk, Rows.uptoBulkAll]
    omega
theorem bulk_A (xs : List Att) : totA xs ≤ Rows.uptoBulkAll (xs.map (atD (H := H))) := by
  induction xs with
  | nil => simp [totA, sizeA, Rows.uptoBulkAll]
  | cons x r ih =>
    have e : totA (x :: r) = totA r + (1 + x.s.size) := by simp [totA, sizeA]; omega
    have e2 : x.s.data.toList.length = x.s.size := by rw [Array.length_toList]; rfl
    rw [e, List.map_cons, Rows.uptoBulkAll]
    simp only [atD, vD, Rows.uptoBulk, Rows.uptoBulkAll]
    omega
theorem in_bulk {d : DataW H} : ∀ {l : List (DataW H)}, d ∈ l → Rows.uptoBulk d ≤ Rows.uptoBulkAll l
  | x :: r, h => by
    rw [Rows.uptoBulkAll]
    rcases List.mem_cons.1 h with rfl | h
    · omega
    · have := in_bulk h; omega
theorem small_C {ds : List (DataW H)} (hk : Rows.uptoSmall H ds = true) {d : DataW H} {xs : List Chg} (hd : InC d xs) (hm : d ∈ ds) : totC xs ≤ 1048576 := by
  have h : Rows.uptoBulkAll ds ≤ 1048576 := of_decide_eq_true hk
  have h2 := in_bulk hm
  rcases hd with ⟨-, rfl⟩ | ⟨sp, rfl⟩
  · simp [totC, sizeC]
  · have := bulk_C (H := H) xs
    rw [Rows.uptoBulk] at h2
    omega
theorem small_A {ds : List (DataW H)} (hk : Rows.uptoSmall H ds = true) {d : DataW H} {xs : List Att} (hd : InA d xs) (hm : d ∈ ds) : totA xs ≤ 1048576 := by
  have h : Rows.uptoBulkAll ds ≤ 1048576 := of_decide_eq_true hk
  have h2 := in_bulk hm
  rcases hd with ⟨-, rfl⟩ | ⟨sp, rfl⟩
  · simp [totA, sizeA]
  · have := bulk_A (H := H) xs
    rw [Rows.uptoBulk] at h2
    omega
end
end Go.Proofs.Ytnggnfhaokkcmaa

/- C13: known -/
namespace Go.Proofs.Ytnggnfhaokkcmaa
open Go.RowKit
set_option linter.unusedVariables false

@[reducible] def e0 : ByteArray := ⟨#[]⟩
end Go.Proofs.Ytnggnfhaokkcmaa

/- C15: the contracts in the form in which the laws take them -/
namespace Go.Proofs.Ytnggnfhaokkcmaa
open Go.RowKit
set_option linter.unusedVariables false

/-- The empty one, wherever it is told. -/
theorem crow_nil (W : World) : Crow W (.slice none 0 0) [] := Row.nil W
end Go.Proofs.Ytnggnfhaokkcmaa

/- S25: New of keys that may be, of keys that may not -/
namespace Go.Proofs.Ytnggnfhaokkcmaa
open Go.RowKit
set_option linter.unusedVariables false

theorem krow_built (w : World) (t : TypeId) (ks : List Key) (hm : ks.length ≤ maxLen) : Krow (w.alloc (.cells (flat ks).toArray t)) (.slice (some ⟨w.heap.size, 0, none⟩) ks.length ks.length) ks := by
  by_cases h0 : ks = []
  · subst h0; exact .inl ⟨_, 0, rfl, rfl, by simp, by simp⟩
  · refine .inr ⟨_, 0, _, rfl, List.length_pos_iff.2 h0, Nat.le_refl _, hm, fun j u hu => ?_⟩
    rw [cell_of_row (w.alloc (.cells (flat ks).toArray t)) w.heap.size (0 + j) _ t (0, 0) (heap_alloc_new w _), ← hu]
    simp

end Go.Proofs.Ytnggnfhaokkcmaa

/- UW: calls that came in: a row of them, and one by value -/
namespace Go.Proofs.Ytnggnfhaokkcmaa
open Go.RowKit Go.ChangeShapes Go.WideShapes Go.Deep
set_option linter.unusedVariables false

section
variable {H : Type} {enc : TypeId × Value → H} {w : World} {base : Nat} {spare : Nat → Bool} {held : Bool}
/-- A slice that came in, whatever its elements are. -/
theorem open_rowP {α : Type} (C : Cel α) (P : α → Prop) {t e : TypeId} (ht : Try.prog.underlying t = some (.slice e)) (hce : Try.prog.cellsOf e = C.m)
    (hel : ∀ (n : Nat) (cs : List Value) (y : DataW H × List MemPlace), DataW.trod enc Try.prog w base spare held n e cs = some y → ∃ x, P x ∧ cs = C.c x)
    {n : Nat} {v : Value} {x : DataW H × List MemPlace} (h : DataW.trod enc Try.prog w base spare held n t [v] = some x) : ∃ xs, Row C w v xs ∧ ∀ a ∈ xs, P a := by
  rcases open_slice ht h with ⟨hcs, -⟩ | ⟨a, len, cap, m, n', D, Pl, hcs, -, hl, hm, hmm, hx, hi⟩
  · injection hcs with hv _
    subst hv
    exact ⟨[], Row.nil w, by simp⟩
  · injection hcs with hv _
    subst hv
    have hlm : len ≤ m := by rw [hmm]; split <;> omega
    have hex : ∀ i : Fin len, ∃ k : α, P k ∧ ∀ j u, (C.c k)[j]? = some u → w.cell? (a.add (i.1 * C.m + j)) = some u := by
      rintro ⟨i, hil⟩
      obtain ⟨cs', hc, ht⟩ := hi i (by omega)
      obtain ⟨k, hw, rfl⟩ := hel _ _ _ ht
      rw [hce] at hc
      obtain ⟨-, hcl, hat⟩ := World.cells?_some hc
      refine ⟨k, hw, fun j u hu => ?_⟩
      have hj : j < C.m := by have := (List.getElem?_eq_some_iff.1 hu).1; rwa [C.len] at this
      have := hat j hj
      rw [hu, add_add] at this
      exact this
    obtain ⟨f, hf⟩ := Classical.axiomOfChoice hex
    have hlen : (List.ofFn f).length = len := by simp
    refine ⟨List.ofFn f, ?_, fun k hk => ?_⟩
    · by_cases h0 : len = 0
      · subst h0
        exact .inl ⟨some a, cap, rfl, by simp, hm, by simp⟩
      · obtain ⟨b, off, spot⟩ := a
        have hp : 0 < (C.c (f ⟨0, by omega⟩)).length := by rw [C.len]; exact C.pos
        have hspot : spot = none := by
          have := (hf ⟨0, by omega⟩).2 0 _ (List.getElem?_eq_getElem hp)
          simpa [Addr.add] using World.cell?_spot this
        subst hspot
        refine .inr ⟨b, off, cap, by rw [hlen], by omega, by omega, hm, fun j u hu => ?_⟩
        have hjl : j < len * C.m := by
          have := (List.getElem?_eq_some_iff.1 hu).1
          rwa [fl_len, hlen] at this
        have e1 : j / C.m * C.m + j % C.m = j := by rw [Nat.mul_comm]; exact Nat.div_add_mod j C.m
        have hd : j / C.m < len := by rw [Nat.div_lt_iff_lt_mul C.pos]; exact hjl
        have g := fl_get C (List.ofFn f) (j / C.m) (j % C.m) (by omega) (Nat.mod_lt _ C.pos)
        rw [e1, hu] at g
        have := (hf ⟨j / C.m, hd⟩).2 (j % C.m) u (by rw [g]; simp)
        rw [e1, Go.WideShapes.add_plain] at this
        exact this
    · obtain ⟨i, rfl⟩ := List.mem_ofFn.1 hk
      exact (hf i).1

def intC : Cel Int := ⟨fun x => [.int .i32 x], 1, fun _ => rfl, fun x u hu => by obtain rfl := List.mem_singleton.1 hu; rfl, by decide⟩
theorem fl_intC : ∀ xs : List Int, fl intC xs = xs.map (Value.int .i32)
  | [] => rfl
  | x :: r => by rw [fl_cons, fl_intC r]; rfl
theorem int_cells10 : Try.prog.cellsOf 21 = 1 := by kernel_rfl
set_option maxRecDepth 100000 in
theorem open_ints {n : Nat} {v : Value} {x : DataW H × List MemPlace} (h : DataW.trod enc Try.prog w base spare held n 30 [v] = some x) : ∃ xs, Ints .i32 w v xs := by
  obtain ⟨xs, h1, -⟩ := open_rowP intC (fun _ => True) Try.underlying30 int_cells10 (fun n cs y hy => by
    obtain ⟨a0, e0, -, -⟩ := DataW.trod_int Try.underlying21 hy
    exact ⟨a0, trivial, e0⟩) h
  refine ⟨xs, ?_⟩
  rcases h1 with h1 | ⟨b, off, cap, hv, h0, h1, h2, h3⟩
  · exact .inl h1
  · refine .inr ⟨b, off, cap, hv, h0, h1, h2, fun j hj => h3 j _ ?_⟩
    rw [fl_intC]
    simp [List.getD, hj]
end
end Go.Proofs.Ytnggnfhaokkcmaa

/- BU: blocks apart, variables, rounds (out of NA, WF, TA, KR, KS, QF, KD, OD) -/
namespace Go
section
variable {l n : Nat} {P : Program} {ops : Array Oper} {Q : Exit → Act → World → Prop} {a : Act} {w : World}
end
end Go
namespace Go
section
variable {l n : Nat} {P : Program} {ops : Array Oper} {Q : Exit → Act → World → Prop}
end
end Go
namespace Go.Proofs.Ytnggnfhaokkcmaa
open Go.RowKit Go.Shelf
set_option linter.unusedVariables false
set_option maxRecDepth 100000
/-! ### blocks apart -/
def sets (L : List Value) : Nat → List Value → List Value
  | _, [] => L
  | o, v :: r => sets (L.set o v) (o + 1) r
theorem sets_len : ∀ (vs : List Value) (L : List Value) (o : Nat), (sets L o vs).length = L.length
  | [], L, o => rfl
  | v :: r, L, o => by rw [sets, sets_len r]; simp
theorem sets_mid : ∀ (vs B A C : List Value), vs.length = B.length → sets (A ++ (B ++ C)) A.length vs = A ++ (vs ++ C)
  | [], [], A, C, _ => rfl
  | [], _ :: _, A, C, h => by simp at h
  | _ :: _, [], A, C, h => by simp at h
  | v :: r, b :: B, A, C, h => by
    have e : (A ++ (b :: B ++ C)).set A.length v = (A ++ [v]) ++ (B ++ C) := by
      rw [List.set_append_right _ _ (Nat.le_refl _), Nat.sub_self]; simp
    have e2 : A.length + 1 = (A ++ [v]).length := by simp
    rw [sets, e, e2, sets_mid r B (A ++ [v]) C (by simpa using h)]
    simp
theorem owns_kept {w w' : World} {base : Nat} {e : TypeId} {size : Nat} {v : Value} {n : Nat} {xs : List Value} (h : w.ownsRow base e size v n xs) (hk : ∀ g, v.ownBlock = some g → w'.heap[g]? = w.heap[g]?) : w'.ownsRow base e size v n xs := by
  refine ⟨h.1, ?_⟩
  rcases h.2 with hn | ⟨g, cap, cur, rfl, hB, hg, rest⟩
  · exact .inl hn
  · exact .inr ⟨g, cap, cur, rfl, hB, (hk g rfl).trans hg, rest⟩
theorem own_tag {w : World} {base : Nat} {e : TypeId} {size : Nat} {v : Value} {n : Nat} {xs : List Value} (h : w.ownsRow base e size v n xs) {g : Nat} (hg : v.ownBlock = some g) : ∃ cur, w.heap[g]? = some (.cells cur e (0, 0)) := by
  rcases h.2 with ⟨rfl, _⟩ | ⟨g', cap, cur, rfl, hB, hh, rest⟩
  · simp [Value.ownBlock] at hg
  · simp [Value.ownBlock] at hg; subst hg; exact ⟨cur, hh⟩
theorem own_lt7 {w : World} {base : Nat} {e : TypeId} {size : Nat} {v : Value} {n : Nat} {xs : List Value} (h : w.ownsRow base e size v n xs) {g : Nat} (hg : v.ownBlock = some g) : g < w.heap.size := by
  obtain ⟨cur, hc⟩ := own_tag h hg
  exact (Array.getElem?_eq_some_iff.1 hc).1
theorem lt_of_heap {w : World} {k : Nat} {o : Obj} (h : w.heap[k]? = some o) : k < w.heap.size := (Array.getElem?_eq_some_iff.1 h).1
/-- But for blocks of S, what lay there lies there. -/
structure Off (S : Nat → Prop) (w w' : World) : Prop where
  os : w'.os = w.os
  tape : w'.tape = w.tape
  output : w'.output = w.output
  size : w.heap.size ≤ w'.heap.size
  block : ∀ k, k < w.heap.size → ¬ S k → w'.heap[k]? = w.heap[k]?
theorem Off.refl (S : Nat → Prop) (w : World) : Off S w w := ⟨rfl, rfl, rfl, Nat.le_refl _, fun _ _ _ => rfl⟩
theorem Off.trans {S : Nat → Prop} {a b c : World} (h : Off S a b) (k : Off (fun i => S i ∨ a.heap.size ≤ i) b c) : Off S a c :=
  ⟨k.os.trans h.os, k.tape.trans h.tape, k.output.trans h.output, Nat.le_trans h.size k.size, fun i hi hS =>
    (k.block i (Nat.lt_of_lt_of_le hi h.size) (fun hh => by rcases hh with hh | hh; exact hS hh; omega)).trans (h.block i hi hS)⟩
theorem Off.seq {S : Nat → Prop} {a b c : World} (h : Off S a b) (k : Off S b c) : Off S a c :=
  ⟨k.os.trans h.os, k.tape.trans h.tape, k.output.trans h.output, Nat.le_trans h.size k.size, fun i hi hS => (k.block i (Nat.lt_of_lt_of_le hi h.size) hS).trans (h.block i hi hS)⟩
theorem Off.cut {S : Nat → Prop} {a b : World} (h : Off (fun k => S k ∨ a.heap.size ≤ k) a b) : Off S a b :=
  ⟨h.os, h.tape, h.output, h.size, fun k hk hn => h.block k hk (fun hh => by rcases hh with hh | hh; exact hn hh; omega)⟩
theorem Off.mono {S S' : Nat → Prop} {a b : World} (h : Off S a b) (hS : ∀ k, S k → S' k) : Off S' a b := ⟨h.os, h.tape, h.output, h.size, fun k hk hn => h.block k hk (fun hh => hn (hS k hh))⟩
theorem Off.of_below {S : Nat → Prop} {a b : World} (h : Below a.heap.size a b) : Off S a b := ⟨h.os, h.tape, h.output, h.size, fun k hk _ => h.block k hk⟩
theorem Off.of_grown {S : Nat → Prop} {a b : World} {row : Option Nat} (h : a.grownBy b row) (hr : ∀ g, row = some g → S g) : Off S a b :=
  ⟨h.os, h.tape, h.output, h.size, fun k hk hn => h.block k hk (fun e => hn (hr k e.symm))⟩
theorem Off.below {S : Nat → Prop} {a b : World} {B : Nat} (h : Off S a b) (hS : ∀ k, S k → B ≤ k) (hB : B ≤ a.heap.size) : Below B a b :=
  ⟨h.os, h.tape, h.output, h.size, fun k hk => h.block k (by omega) (fun hh => by have := hS k hh; omega)⟩
theorem far {w w' : World} {row : Option Nat} (hg : w.grownBy w' row) {k : Nat} {o : Obj} (hk : w.heap[k]? = some o) (hr : ∀ g, row = some g → ∃ o', w.heap[g]? = some o' ∧ o' ≠ o) : w'.heap[k]? = some o := by
  rw [hg.block k (Array.getElem?_eq_some_iff.1 hk).1]
  · exact hk
  · intro e
    obtain ⟨o', h1, h2⟩ := hr k e.symm
    rw [hk] at h1
    exact h2 (Option.some.inj h1).symm
theorem own_far {w w' : World} {row : Option Nat} {base : Nat} {e : TypeId} {size : Nat} {v : Value} {n : Nat} {xs : List Value} (hg : w.grownBy w' row) (h : w.ownsRow base e size v n xs) (hr : ∀ g, row = some g → ∃ o', w.heap[g]? = some o' ∧ ∀ c, o' ≠ .cells c e (0, 0)) : w'.ownsRow base e size v n xs := by
  refine owns_kept h fun g hgb => ?_
  obtain ⟨cur, hc⟩ := own_tag h hgb
  rw [hc]
  exact far hg hc (fun g' hg' => by obtain ⟨o', h1, h2⟩ := hr g' hg'; exact ⟨o', h1, h2 _⟩)
theorem grown_set {w : World} {g o : Nat} (u : Value) : w.grownBy (w.setCell ⟨g, o, none⟩ u) (some g) :=
  ⟨rfl, rfl, rfl, by simp [World.setCell], fun k _ hk => Below.heap_setCell _ _ _ _ (fun e => hk (by rw [e]))⟩
theorem heap_set {w : World} {g o : Nat} {c : Array Value} {e : TypeId} {fz : Nat × Nat} (u : Value) (h : w.heap[g]? = some (.cells c e fz)) : (w.setCell ⟨g, o, none⟩ u).heap[g]? = some (.cells (c.setIfInBounds o u) e fz) := by
  simp [World.setCell, Array.getElem?_modify, h]
theorem owns_set {w : World} {base : Nat} {e : TypeId} {size : Nat} {g cap n : Nat} {xs : List Value} (h : w.ownsRow base e size (.slice (some ⟨g, 0, none⟩) n cap) n xs) {j : Nat} (u : Value) :
    (w.setCell ⟨g, j, none⟩ u).ownsRow base e size (.slice (some ⟨g, 0, none⟩) n cap) n (xs.set j u) := by
  refine ⟨by rw [List.length_set]; exact h.1, ?_⟩
  rcases h.2 with ⟨hn, _⟩ | ⟨g', cap', cur, hv, hB, hg, hc, hm, hs, ht⟩
  · cases hn
  · injection hv with e1 e2 e3
    injection e1 with e1
    injection e1 with e1
    subst e1 e3
    refine .inr ⟨g, cap, cur.setIfInBounds j u, rfl, hB, heap_set u hg, hc, hm, by simpa using hs, ?_⟩
    rw [Array.toList_setIfInBounds, List.take_set, ht]
/-- What an owned row's slice looks like. -/
theorem own_shape {w : World} {base : Nat} {e : TypeId} {size : Nat} {v : Value} {n : Nat} {xs : List Value} (h : w.ownsRow base e size v n xs) : ∃ a c, v = .slice a n c ∧ (a = none ∨ ∃ g, a = some ⟨g, 0, none⟩) ∧ n ≤ c := by
  rcases h.2 with ⟨rfl, rfl⟩ | ⟨g, cap, cur, rfl, _, _, hc, _⟩
  · exact ⟨none, 0, rfl, .inl rfl, Nat.le_refl _⟩
  · exact ⟨_, cap, rfl, .inr ⟨g, rfl⟩, hc⟩
theorem own_nil (w : World) (base : Nat) (e : TypeId) (size : Nat) : w.ownsRow base e size (.slice none 0 0) 0 [] := ⟨by simp, .inl ⟨rfl, rfl⟩⟩

section
variable {S : Nat → Prop} {w w' : World}
theorem Off.below_r {a b c : World} (h : Off S a b) (k : Below b.heap.size b c) : Off S a c := h.seq (Off.of_below k)
theorem Off.below_l {a b c : World} (h : Below a.heap.size a b) (k : Off S b c) : Off S a c := (Off.of_below h).seq k
/-- Block b holds these cells, as a variable of type t. -/
def Cb (b : Nat) (t : TypeId) (cs : Array Value) (w : World) : Prop := w.heap[b]? = some (.cells cs t (0, 0))
theorem Cb.below {b : Nat} {t : TypeId} {cs : Array Value} (h : Cb b t cs w) (hb : Below w.heap.size w w') : Cb b t cs w' := (hb.block b (lt_of_heap h)).trans h
theorem Cb.off {b : Nat} {t : TypeId} {cs : Array Value} {X : Nat → Prop} (h : Cb b t cs w) (ho : Off X w w') (hx : ¬ X b) : Cb b t cs w' := (ho.block b (lt_of_heap h) hx).trans h
theorem Cb.alloc {b : Nat} {t : TypeId} {cs : Array Value} (h : Cb b t cs w) (o : Obj) : Cb b t cs (w.alloc o) := (heap_alloc_old w o (lt_of_heap h)).trans h
theorem Cb.lt {b : Nat} {t : TypeId} {cs : Array Value} (h : Cb b t cs w) : b < w.heap.size := lt_of_heap h
theorem Cb.set {b : Nat} {t : TypeId} {cs : Array Value} (h : Cb b t cs w) (ds : Array Value) : Cb b t ds (w.setRow b ds) := setRow_heap _ _ _ ds _ _ h
theorem Cb.other {b c : Nat} {t : TypeId} {cs : Array Value} (h : Cb b t cs w) (hn : b ≠ c) (ds : Array Value) : Cb b t cs (w.setRow c ds) := (setRow_other w c b ds hn).trans h
theorem Cb.cell {b : Nat} {t : TypeId} {cs : Array Value} (h : Cb b t cs w) (o : Nat) : w.cell? ⟨b, o, none⟩ = cs[o]? := cell_of_row w b o _ _ _ h
theorem Cb.frozen {b : Nat} {t : TypeId} {cs : Array Value} (h : Cb b t cs w) (o : Nat) : w.frozen? ⟨b, o, none⟩ = false := by simp [World.frozen?, show w.heap[b]? = _ from h]
theorem cb_new (w : World) (t : TypeId) (cs : Array Value) : Cb w.heap.size t cs (w.alloc (.cells cs t)) := heap_alloc_new w _
theorem below_row {B b : Nat} {a : World} {cs : Array Value} (h : Below B a w) (hb : B ≤ b) : Below B a (w.setRow b cs) := below_setRow h hb cs
end
/-- A part of a row, loaded whole. -/
theorem wpList_load_midw {P : Program} {ops : Array Oper} {rest : List Oper} {op : Oper} {a : Act} {w : World} {Q : Exit → Act → World → Prop} (hw : Region.wanted op (yielded ops a.tmps) = true) (ty : TypeId) (x : Operand) (ho : op.op = .load ty x)
    (b o : Nat) (hx : a.eval x = .pointer (some ⟨b, o, none⟩)) (cs : List Value) (d : TypeDesc) (hc : w.rangeAt b o cs)
    (hu : P.underlying ty = some d) (hd : d.isRow = true) (hi : (P.info? ty).map (·.size) = some cs.length)
    (h : wpList P ops Q rest (a.put op.dst (.agg cs.toArray)) w) : wpList P ops Q (op :: rest) a w :=
  wpList_step fun K hK => by
    rw [if_pos hw]
    exact wp_load_mid ty x ho b o hx cs d hc hu hd hi (hK _ _ h)
theorem fold_sets (off : Nat) : ∀ (L : List Value) (k : Nat) (A : Array Value), ((L.zipIdx k).foldl (fun cs x => cs.setIfInBounds (off + x.2) x.1) A).toList = sets A.toList (off + k) L
  | [], k, A => rfl
  | v :: r, k, A => by
    rw [List.zipIdx_cons, List.foldl_cons, fold_sets off r (k + 1), sets]
    simp [Nat.add_assoc]
theorem fold_setsA (off : Nat) (c A : Array Value) : (c.zipIdx.foldl (fun cs (x : Value × Nat) => cs.setIfInBounds (off + x.2) x.1) A).toList = sets A.toList off c.toList := by
  rw [← Array.foldl_toList, Array.toList_zipIdx, fold_sets off c.toList 0 A, Nat.add_zero]
/-- The rest of a walk asks of a world only this. -/
theorem with_worldT {P : Program} {c : Code} {Q : Exit → Act → World → Prop} {a : Act} {W0 : World} (F : World → Prop) (h0 : F W0) (h : ∀ W, F W → c.wp P Q a W) : c.wp P Q a W0 := h _ h0
theorem with_worldTL {P : Program} {ops : Array Oper} {rest : List Oper} {Q : Exit → Act → World → Prop} {a : Act} {W0 : World} (F : World → Prop) (h0 : F W0) (h : ∀ W, F W → wpList P ops Q rest a W) : wpList P ops Q rest a W0 := h _ h0
section
variable {w0 w W W' : World}
end
/-- What a round keeps: all that lay below n0, but for some. -/
structure KpX (n0 : Nat) (X : Nat → Prop) (W W' : World) : Prop where
  os : W'.os = W.os
  tape : W'.tape = W.tape
  output : W'.output = W.output
  size : W.heap.size ≤ W'.heap.size
  keep : ∀ k, k < n0 → k < W.heap.size → ¬ X k → W'.heap[k]? = W.heap[k]?
section
variable {n0 : Nat} {X S : Nat → Prop} {W W' W1 w w' : World}
theorem KpX.refl (n0 : Nat) (X : Nat → Prop) (W : World) : KpX n0 X W W := ⟨rfl, rfl, rfl, Nat.le_refl _, fun _ _ _ _ => rfl⟩
theorem KpX.trans (h : KpX n0 X W W1) (k : KpX n0 X W1 W') : KpX n0 X W W' := ⟨k.os.trans h.os, k.tape.trans h.tape, k.output.trans h.output, Nat.le_trans h.size k.size, fun i hi hl hx => (k.keep i hi (Nat.lt_of_lt_of_le hl h.size) hx).trans (h.keep i hi hl hx)⟩
theorem KpX.of_below (h : Below W.heap.size W W') : KpX n0 X W W' := ⟨h.os, h.tape, h.output, h.size, fun k _ hk _ => h.block k hk⟩
theorem KpX.off (h : KpX n0 X W W') : Off (fun k => X k ∨ n0 ≤ k) W W' := ⟨h.os, h.tape, h.output, h.size, fun k hk hx => h.keep k (by
  rcases Nat.lt_or_ge k n0 with h | h
  · exact h
  · exact absurd (.inr h) hx) hk (fun hh => hx (.inl hh))⟩
end
section
variable {W W' : World}
end
/-- A whole row out of its block, at an operation that is wanted, whatever it is guarded by. -/
theorem wpList_load_roww {P : Program} {ops : Array Oper} {rest : List Oper} {o : Oper} {a : Act} {w : World} {Q : Exit → Act → World → Prop} (ty : TypeId) (x : Operand) (ho : o.op = .load ty x)
    (g : Nat) (hx : a.eval x = .pointer (some ⟨g, 0, none⟩)) (hw : Region.wanted o (yielded ops a.tmps) = true) (t : TypeId) (cs : Array Value) (fr : Nat × Nat) (d : TypeDesc) (hg : w.heap[g]? = some (.cells cs t fr))
    (hu : P.underlying ty = some d) (hd : (match d with | .struct _ | .array _ _ => true | _ => false) = true) (hi : (P.info? ty).map (·.size) = some cs.size)
    (h : wpList P ops Q rest (a.put o.dst (.agg cs)) w) : wpList P ops Q (o :: rest) a w :=
  wpList_step fun K hK => by
    rw [if_pos hw]
    exact wp_load_row ty x ho g hx t cs fr d hg hu hd hi (hK _ _ h)

/-! ### a region that draws its order: whatever may come up -/
section
variable {P : Program} {l : List Oper} {Q : Exit → Act → World → Prop} {md : Region.Mode} {S : World → Prop} {fuel : Nat} {listed : Array Bool} {a : Act} {w : World}
theorem h_all1 {i : Nat} (hr : Region.ready md l.toArray listed = [i])
    (h1 : wpOp P l.toArray Q i (fun a' w' => S w' ∧ wpAnyH P md l.toArray Q S fuel (listed.setIfInBounds i true) a' w') a w) : wpAnyH P md l.toArray Q S (fuel + 1) listed a w :=
  wpAnyH_all hr (by simp) fun x hx => by simp at hx; subst hx; exact h1
theorem h_all2 {i j : Nat} (hr : Region.ready md l.toArray listed = [i, j])
    (h1 : wpOp P l.toArray Q i (fun a' w' => S w' ∧ wpAnyH P md l.toArray Q S fuel (listed.setIfInBounds i true) a' w') a w)
    (h2 : wpOp P l.toArray Q j (fun a' w' => S w' ∧ wpAnyH P md l.toArray Q S fuel (listed.setIfInBounds j true) a' w') a w) : wpAnyH P md l.toArray Q S (fuel + 1) listed a w :=
  wpAnyH_all hr (by simp) fun x hx => by
    simp at hx
    rcases hx with rfl | rfl
    · exact h1
    · exact h2
theorem h_all3 {i j k : Nat} (hr : Region.ready md l.toArray listed = [i, j, k])
    (h1 : wpOp P l.toArray Q i (fun a' w' => S w' ∧ wpAnyH P md l.toArray Q S fuel (listed.setIfInBounds i true) a' w') a w)
    (h2 : wpOp P l.toArray Q j (fun a' w' => S w' ∧ wpAnyH P md l.toArray Q S fuel (listed.setIfInBounds j true) a' w') a w)
    (h3 : wpOp P l.toArray Q k (fun a' w' => S w' ∧ wpAnyH P md l.toArray Q S fuel (listed.setIfInBounds k true) a' w') a w) : wpAnyH P md l.toArray Q S (fuel + 1) listed a w :=
  wpAnyH_all hr (by simp) fun x hx => by
    simp at hx
    rcases hx with rfl | rfl | rfl
    · exact h1
    · exact h2
    · exact h3
/-- A call. -/
theorem o_call {R : Act → World → Prop} {i : Nat} {oi : Oper} {f : FuncId} {args : Array Value} (hi : l[i]? = some oi) (hw : Region.wanted oi (yielded l.toArray a.tmps) = true)
    (hv : (execOp a.eval oi).run P w = .ok (.enter f args) w)
    (hc : Calls P f args w fun e w' => ∃ v, e = .returned v ∧ R (a.put oi.dst v) w') : wpOp P l.toArray Q i R a w := by
  have hi2 : l.toArray[i]? = some oi := by simpa using hi
  unfold wpOp
  simp only [hi2, hw, if_true]
  left
  unfold Oper.wp
  rw [hv]
  simp only [Oper.upon]
  refine hc.mono fun e w' ⟨v, he, h1⟩ => ?_
  subst he
  exact h1
/-- An operation by a law of its own. -/
theorem o_step {R : Act → World → Prop} {i : Nat} {oi : Oper} (hi : l[i]? = some oi) (hw : Region.wanted oi (yielded l.toArray a.tmps) = true)
    (h : oi.wp P a w R Q) : wpOp P l.toArray Q i R a w := by
  have hi2 : l.toArray[i]? = some oi := by simpa using hi
  unfold wpOp
  simp only [hi2, hw, if_true]
  left
  exact h
theorem h_val {i : Nat} {oi : Oper} {v : Value} (hi : l[i]? = some oi) (hs : Region.noSelect l.toArray = true) (hf : Region.free md l.toArray listed i = true) (hr : (Region.ready md l.toArray listed).contains i = true)
    (hQ : ∀ c a w, Q (.panic c) (a.put oi.dst v) w → Q (.panic c) a w) (hw : Region.wanted oi (yielded l.toArray a.tmps) = true) (hv : ∀ w, S w → (execOp a.eval oi).run P w = .ok (.value v) w) (hS : S w)
    (h : wpAnyH P md l.toArray Q S fuel (listed.setIfInBounds i true) (a.put oi.dst v) w) : wpAnyH P md l.toArray Q S (fuel + 1) listed a w :=
  wpAnyH_take (by simpa using hi) hs hf hr hQ (.inl ⟨hw, hv⟩) hS h
theorem h_call {i : Nat} {oi : Oper} {f : FuncId} {args : Array Value} (hi : l[i]? = some oi) (hr : Region.ready md l.toArray listed = [i]) (hw : Region.wanted oi (yielded l.toArray a.tmps) = true)
    (hv : (execOp a.eval oi).run P w = .ok (.enter f args) w)
    (hc : Calls P f args w fun e w' => ∃ v, e = .returned v ∧ S w' ∧ wpAnyH P md l.toArray Q S fuel (listed.setIfInBounds i true) (a.put oi.dst v) w') : wpAnyH P md l.toArray Q S (fuel + 1) listed a w := by
  refine wpAnyH_all hr (by simp) fun j hj => ?_
  simp at hj
  subst hj
  have hi2 : l.toArray[j]? = some oi := by simpa using hi
  unfold wpOp
  simp only [hi2, hw, if_true]
  left
  unfold Oper.wp
  rw [hv]
  simp only [Oper.upon]
  refine hc.mono fun e w' ⟨v, he, h1, h2⟩ => ?_
  subst he
  exact ⟨h1, h2⟩
theorem h_start {id : Nat} (hm : P.follows .mixedOrders = true) (h : wpAnyH P .any l.toArray Q S l.toArray.size (Array.replicate l.toArray.size false) a w.drew) : (Code.region id l.toArray true).wp P Q a w := wp_region_held hm h
theorem h_done (hr : Region.ready md l.toArray listed = []) (h : Q .normal a w) : wpAnyH P md l.toArray Q S fuel listed a w := wpAnyH_done hr h _
/-- An operation that turns the world, the only one that may come up. -/
theorem h_step {i : Nat} {oi : Oper} (hi : l[i]? = some oi) (hr : Region.ready md l.toArray listed = [i]) (hw : Region.wanted oi (yielded l.toArray a.tmps) = true)
    (h : ∀ K : Act → World → Prop, (∀ a' w', S w' → wpAnyH P md l.toArray Q S fuel (listed.setIfInBounds i true) a' w' → K a' w') → oi.wp P a w K Q) : wpAnyH P md l.toArray Q S (fuel + 1) listed a w := by
  refine wpAnyH_all hr (by simp) fun j hj => ?_
  simp at hj
  subst hj
  have hi2 : l.toArray[j]? = some oi := by simpa using hi
  unfold wpOp
  simp only [hi2, hw, if_true]
  left
  exact h _ fun a' w' h1 h2 => ⟨h1, h2⟩
end
theorem wp_val {P : Program} {op : Oper} {a : Act} {w : World} {K : Act → World → Prop} {Q : Exit → Act → World → Prop} (v : Value) (hv : (execOp a.eval op).run P w = .ok (.value v) w) (h : K (a.put op.dst v) w) : op.wp P a w K Q := by
  unfold Oper.wp
  rw [hv]
  exact h
theorem wp_skip {P : Program} {op : Oper} {a : Act} {w w' : World} {K : Act → World → Prop} {Q : Exit → Act → World → Prop} (hv : (execOp a.eval op).run P w = .ok .skip w') (h : K (a.put op.dst undef) w') : op.wp P a w K Q := by
  unfold Oper.wp
  rw [hv]
  exact h
/-- A region that draws its order, as it is handed to the hand walk, within a round or not. -/
theorem h_skip {P : Program} {l : List Oper} {Q : Exit → Act → World → Prop} {md : Region.Mode} {S : World → Prop} {fuel : Nat} {listed : Array Bool} {a : Act} {w : World} {i : Nat} {oi : Oper} (hi : l[i]? = some oi) (hs : Region.noSelect l.toArray = true) (hf : Region.free md l.toArray listed i = true) (hr : (Region.ready md l.toArray listed).contains i = true)
    (hQ : ∀ c a w, Q (.panic c) (a.put oi.dst undef) w → Q (.panic c) a w) (hw : Region.wanted oi (yielded l.toArray a.tmps) = false) (hS : S w)
    (h : wpAnyH P md l.toArray Q S fuel (listed.setIfInBounds i true) (a.put oi.dst undef) w) : wpAnyH P md l.toArray Q S (fuel + 1) listed a w :=
  wpAnyH_take (by simpa using hi) hs hf hr hQ (.inr ⟨hw, rfl⟩) hS h
end Go.Proofs.Ytnggnfhaokkcmaa

/- S18: a slice of keys that came in -/
namespace Go.Proofs.Ytnggnfhaokkcmaa
open Go.RowKit Go.ChangeShapes Go.WideShapes Go.Deep
set_option linter.unusedVariables false

section
variable {H : Type} {enc : TypeId × Value → H} {w : World} {base : Nat} {spare : Nat → Bool} {held : Bool}

theorem key_fields : Try.prog.underlying 61 = some (.struct (Try.prog.fieldsOf 61)) := by kernel_rfl
theorem key_one : oneCellFields Try.prog (Try.prog.fieldsOf 61) = true := by kernel_rfl
theorem key_cells : Try.prog.cellsOf 61 = 6 := by kernel_rfl
theorem key_types : (Try.prog.fieldsOf 61).map (·.type) = #[3, 4, 5, 4, 4, 3] := by kernel_rfl

theorem key_size : (Try.prog.fieldsOf 61).size = 6 := by kernel_rfl

/-- A key's six cells, from what was read of it. -/
theorem open_key {n : Nat} {cs : List Value} {y : DataW H × List MemPlace} (h : DataW.trod enc Try.prog w base spare held n 61 cs = some y) : ∃ k : Key, KeyW k ∧ cs = kc k := by
  obtain ⟨ys, m, -, -, hlen, hys, hf⟩ := DataW.trod_struct key_fields h
  rw [key_cells] at hlen
  rw [key_size] at hys
  have hj : ∀ (j : Nat) (t : TypeId), (#[3, 4, 5, 4, 4, 3] : Array TypeId)[j]? = some t → DataW.trod enc Try.prog w base spare held m t ((cs.drop j).take 1) = ys[j]? := by
    intro j t hjt
    rw [← key_types, Array.getElem?_map, Option.map_eq_some_iff] at hjt
    obtain ⟨f, hfj, rfl⟩ := hjt
    obtain ⟨ho, hk⟩ := hone_of key_one j f hfj
    have := hf j f hfj
    rwa [ho, hk] at this
  clear hf h
  match cs, hlen with
  | [c0, c1, c2, c3, c4, c5], _ =>
    match ys, hys with
    | [y0, y1, y2, y3, y4, y5], _ =>
      have h0 : DataW.trod enc Try.prog w base spare held m 3 [c0] = some y0 := hj 0 _ rfl
      have h1 : DataW.trod enc Try.prog w base spare held m 4 [c1] = some y1 := hj 1 _ rfl
      have h2 : DataW.trod enc Try.prog w base spare held m 5 [c2] = some y2 := hj 2 _ rfl
      have h3 : DataW.trod enc Try.prog w base spare held m 4 [c3] = some y3 := hj 3 _ rfl
      have h4 : DataW.trod enc Try.prog w base spare held m 4 [c4] = some y4 := hj 4 _ rfl
      have h5 : DataW.trod enc Try.prog w base spare held m 3 [c5] = some y5 := hj 5 _ rfl
      obtain ⟨a0, e0, -, w0⟩ := DataW.trod_int Try.underlying3 h0
      obtain ⟨a1, e1, -⟩ := DataW.trod_bool Try.underlying4 h1
      obtain ⟨a2, e2, -, w2⟩ := DataW.trod_int Try.underlying5 h2
      obtain ⟨a3, e3, -⟩ := DataW.trod_bool Try.underlying4 h3
      obtain ⟨a4, e4, -⟩ := DataW.trod_bool Try.underlying4 h4
      obtain ⟨a5, e5, -, w5⟩ := DataW.trod_int Try.underlying3 h5
      simp only [List.cons.injEq, and_true] at e0 e1 e2 e3 e4 e5
      subst e0 e1 e2 e3 e4 e5
      exact ⟨⟨a0, a1, a2, a3, a4, a5⟩, ⟨w0, w2, w5⟩, rfl⟩

/-- A slice of keys that came in reads as keys. -/
theorem open_keys {n : Nat} {v : Value} {x : DataW H × List MemPlace} (h : DataW.trod enc Try.prog w base spare held n 22 [v] = some x) : ∃ ks, Krow w v ks ∧ ∀ k ∈ ks, KeyW k := by
  rcases open_slice Try.underlying22 h with ⟨hcs, -⟩ | ⟨a, len, cap, m, n', D, Pl, hcs, -, hl, hm, hmm, -, hi⟩
  · injection hcs with hv _
    subst hv
    exact ⟨[], Krow.nil w, by simp⟩
  · injection hcs with hv _
    subst hv
    have hlm : len ≤ m := by rw [hmm]; split <;> omega
    have hex : ∀ i, i < len → ∃ k : Key, KeyW k ∧ ∀ j u, (kc k)[j]? = some u → w.cell? (a.add (i * 6 + j)) = some u := by
      intro i hil
      obtain ⟨cs', hc, ht⟩ := hi i (by omega)
      obtain ⟨k, hw, rfl⟩ := open_key ht
      rw [key_cells] at hc
      obtain ⟨-, hcl, hat⟩ := World.cells?_some hc
      refine ⟨k, hw, fun j u hu => ?_⟩
      have hj : j < 6 := by have := (List.getElem?_eq_some_iff.1 hu).1; simpa using this
      have := hat j hj
      rw [hu, add_add] at this
      exact this
    have hex2 : ∀ i : Fin len, ∃ k : Key, KeyW k ∧ ∀ j u, (kc k)[j]? = some u → w.cell? (a.add (i.1 * 6 + j)) = some u := fun i => hex i.1 i.2
    obtain ⟨f, hf⟩ := Classical.axiomOfChoice hex2
    have hlen : (List.ofFn f).length = len := by simp
    refine ⟨List.ofFn f, ?_, fun k hk => ?_⟩
    · by_cases h0 : len = 0
      · subst h0
        exact .inl ⟨some a, cap, rfl, by simp, hm, by simp⟩
      · obtain ⟨b, off, spot⟩ := a
        have hspot : spot = none := by
          have := (hf ⟨0, by omega⟩).2 0 _ rfl
          simpa [Addr.add] using World.cell?_spot this
        subst hspot
        refine .inr ⟨b, off, cap, by rw [hlen], by omega, by omega, hm, fun j u hu => ?_⟩
        have hjl : j < len * 6 := by
          have := (List.getElem?_eq_some_iff.1 hu).1
          rwa [flat_len, hlen] at this
        have e1 : j / 6 * 6 + j % 6 = j := by omega
        have hd : j / 6 < len := by omega
        have g := flat_get (List.ofFn f) (j / 6) (j % 6) (by omega) (by omega)
        rw [e1, hu] at g
        have := (hf ⟨j / 6, hd⟩).2 (j % 6) u (by rw [g]; simp)
        rw [e1, Go.WideShapes.add_plain] at this
        exact this
    · obtain ⟨i, rfl⟩ := List.mem_ofFn.1 hk
      exact (hf i).1
end
end Go.Proofs.Ytnggnfhaokkcmaa
