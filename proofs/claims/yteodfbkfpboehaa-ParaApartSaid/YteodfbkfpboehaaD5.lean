
import Derived.Test.YteodfbkfpboehaaRows
import Derived.WalkKit
import Derived.ProofKit
import Derived.Below
import Derived.BigQuiet
import Derived.Deep.QuietTactic
import Derived.Lib.Hide
import Derived.OpenShut
import Derived.Laws.AppendOwnNone
import Derived.Laws.CopyOwn
import Derived.Deep.Quiet
import Derived.Deep.AppendLies
import Derived.Laws.StructEq
import Derived.Laws.Cover2
import Derived.Laws.FloatBits
import Derived.Laws.FloatArith
import Derived.Laws.Externs
import Derived.Laws.Bits64
import Derived.Laws.Bits64b
import Derived.Laws.BitsAllLaws
import Derived.Lib.ConvBytes
import Derived.Laws.AppendOwn
import Derived.Deep.RegionHeld3
import Derived.Deep.Slices
import Derived.Deep.Fields
import Derived.ChangeArms
import Derived.ChangeSame
import Derived.ChangeMaps5
import Derived.Lib.SmallJoins
import Derived.Maps.RangeWalk
import Derived.Lib.AppendZeros
import Derived.Laws.Cover3
import Derived.Maps.OwnSet
import Derived.Deep.Cut
import Derived.WalkMore
import Derived.RegionTactic
import Derived.Shelf.Abstract
import Derived.SizedLaws
/- B -/
namespace Go.Proofs.Yteodfbkfpboehaa
open Go.RowKit
set_option linter.unusedVariables false

theorem ret_bool {a b : Bool} (h : a = b) : Ending.returned (.bool a) = .returned (.bool b) := by rw [h]
theorem ret_int {k : IntKind} {a b : Int} (h : a = b) : Ending.returned (.int k a) = .returned (.int k b) := by rw [h]

/-- A slice of integers of kind k that reads as xs. -/
def Ints (k : IntKind) (w : World) (v : Value) (xs : List Int) : Prop :=
  (∃ a cap, v = .slice a 0 cap ∧ xs = [] ∧ cap ≤ maxLen ∧ (a = none → cap = 0)) ∨
  ∃ b off cap, v = .slice (some ⟨b, off, none⟩) xs.length cap ∧ 0 < xs.length ∧ xs.length ≤ cap ∧ cap ≤ maxLen ∧
    (∀ j, j < xs.length → w.cell? ⟨b, off + j, none⟩ = some (.int k (xs.getD j 0)))

theorem Ints.below {k : IntKind} {w w' : World} {v : Value} {xs : List Int} (h : Ints k w v xs) (hb : Below w.heap.size w w') : Ints k w' v xs := by
  rcases h with h | ⟨b, off, cap, rfl, h0, h1, h2, h3⟩
  · exact .inl h
  · refine .inr ⟨b, off, cap, rfl, h0, h1, h2, fun j hj => ?_⟩
    have := h3 j hj
    rw [← this]
    exact hb.cell (p := ⟨b, off + j, none⟩) (World.block_lt_of_cell? w _ this)

theorem Ints.len {k : IntKind} {w : World} {v : Value} {xs : List Int} (h : Ints k w v xs) : xs.length ≤ 9223372036854775807 := by
  rcases h with ⟨a, cap, rfl, rfl, _⟩ | ⟨b, off, cap, rfl, h0, h1, h2, h3⟩
  · simp
  · unfold maxLen at h2; omega

/-- A row of bytes, or of numbers, that the call owns, reads as what it owns. -/
theorem Ints.of_owns {k : IntKind} {w : World} {base : Nat} {e : TypeId} {v : Value} {n : Nat} {xs : List Int} (h : w.ownsRow base e 1 v n (xs.map (Value.int k))) : Ints k w v xs ∧ n = xs.length := by
  have hn : n = xs.length := by have := h.1; simp at this; omega
  subst hn
  refine ⟨?_, rfl⟩
  by_cases hx : xs = []
  · subst hx
    rcases h.2 with ⟨rfl, _⟩ | ⟨g, cap, cur, rfl, hb, hg, hc, hm, _⟩
    · exact .inl ⟨none, 0, rfl, rfl, by simp, fun _ => rfl⟩
    · exact .inl ⟨_, cap, rfl, rfl, hm, by simp⟩
  · have hpos : 0 < xs.length := List.length_pos_iff.2 hx
    rcases h.2 with ⟨rfl, h0⟩ | ⟨g, cap, cur, hv, hb, hg, hc, hm, _⟩
    · omega
    · subst hv
      refine .inr ⟨g, 0, cap, rfl, hpos, hc, hm, fun j hj => ?_⟩
      have := h.cells (g := g) rfl j (.int k (xs.getD j 0)) (by simp [List.getD, hj])
      rw [Go.WideShapes.add_plain] at this
      simpa using this
end Go.Proofs.Yteodfbkfpboehaa

/- R -/
namespace Go.Proofs.Yteodfbkfpboehaa
open Go.RowKit
set_option linter.unusedVariables false

/-- What a law is told of a slice of integers that came in: nil; or a row of cap cells. -/
def IsRow (k : IntKind) (w : World) (a : Option Addr) (len cap : Nat) (zs : List Int) : Prop :=
  (a = none ∧ len = 0 ∧ cap = 0 ∧ zs = []) ∨
  ∃ x, a = some x ∧ len ≤ cap ∧ cap ≤ maxLen ∧ zs.length = cap ∧ (∀ i, i < zs.length → w.cell? (x.add i) = some (.int k (zs.getD i 0))) ∧ ∀ n ∈ zs, (Lit.int k n).wf = true

theorem IsRow.ints {k : IntKind} {w : World} {a : Option Addr} {len cap : Nat} {zs : List Int} (h : IsRow k w a len cap zs) : Ints k w (.slice a len cap) (zs.take len) := by
  rcases h with ⟨rfl, rfl, rfl, rfl⟩ | ⟨x, rfl, hl, hm, hz, hc, _⟩
  · exact .inl ⟨none, 0, rfl, rfl, by simp, fun _ => rfl⟩
  · have hlen : (zs.take len).length = len := by rw [List.length_take]; omega
    by_cases h0 : len = 0
    · subst h0
      exact .inl ⟨some x, cap, rfl, by simp, hm, by simp⟩
    · obtain ⟨b, off, rfl, hc2⟩ := ints_at hc (by omega)
      refine .inr ⟨b, off, cap, by rw [hlen], by omega, by omega, hm, fun j hj => ?_⟩
      rw [hlen] at hj
      rw [hc2 j (by omega)]
      simp [List.getD, hj]
theorem IsRow.wf {k : IntKind} {w : World} {a : Option Addr} {len cap : Nat} {zs : List Int} (h : IsRow k w a len cap zs) : ∀ n ∈ zs.take len, (Lit.int k n).wf = true := by
  rcases h with ⟨rfl, rfl, rfl, rfl⟩ | ⟨x, rfl, hl, hm, hz, hc, hw⟩
  · simp
  · intro n hn
    exact hw n (List.mem_of_mem_take hn)
theorem wf_u8 {x : Int} (h : (Lit.int .u8 x).wf = true) : 0 ≤ x ∧ x < 256 := by
  have := Go.bounds_u8 h
  omega
end Go.Proofs.Yteodfbkfpboehaa

/- W -/
namespace Go.Proofs.Yteodfbkfpboehaa
open Go.RowKit
set_option linter.unusedVariables false

theorem grown_refl (w : World) (row : Option Nat) : w.grownBy w row := ⟨rfl, rfl, rfl, Nat.le_refl _, fun _ _ _ => rfl⟩

theorem ints_cells {k : IntKind} (zs : List Int) : ∀ u ∈ zs.map (Value.int k), u.oneCell' = true := by
  intro u hu
  simp at hu
  obtain ⟨x, _, rfl⟩ := hu
  rfl

/-- append(out, src...): out the call's own, src whatever slice of integers, nil too. -/
theorem wpList_append_ints {P : Program} {w : World} {ops : Array Oper} {rest : List Oper} {o : Oper} {a : Act} {Q : Exit → Act → World → Prop} (hgd : o.guard = none) (s x : Operand) (t : TypeId)
    (ho : o.op = .call { callee := .builtin .append, args := #[s, x], argTypes := #[t, t] })
    (base : Nat) (e : TypeId) (i : TypeInfo) (z : Value) (bytes : Nat) (ht : P.underlying t = some (.slice e)) (hi : P.info? e = some i) (hz : i.zero = some z)
    (hsize : i.size = 1) (hby : i.bytes = bytes) (hzs : z.cells.size = 1)
    (v : Value) (n : Nat) (cs : List Value) (hs : a.eval s = v) (hown : w.ownsRow base e 1 v n cs)
    (u : Value) (k : IntKind) (ys : List Int) (hx : a.eval x = u) (hu : Ints k w u ys)
    (h63 : n + ys.length ≤ maxLen) (hbytes : (n + ys.length) * bytes ≤ 140737488355328) (hbase : base ≤ w.heap.size)
    (h : ∀ v' w', w'.ownsRow base e 1 v' (n + ys.length) (cs ++ ys.map (Value.int k)) → w.grownBy w' v.ownBlock → wpList P ops Q rest (a.put o.dst v') w') : wpList P ops Q (o :: rest) a w := by
  rcases hu with ⟨ad, cap, rfl, rfl, hm, hc0⟩ | ⟨b, off, cap, rfl, h0, h1, hm, hc⟩
  · cases ad with
    | none =>
      obtain rfl := hc0 rfl
      exact wpList_append_own_none hgd s x t ho base e i 1 ht hi v n cs hs hown hx (h v w (by simpa using hown) (grown_refl _ _))
    | some ad =>
      exact wpList_append_own w hgd s x t ho base e i z 1 bytes ht hi hz hsize hby hzs (by decide) v n cs hs hown ad 0 cap [] hx rfl (by intro j u hj; simp at hj) (by intro u hu; cases hu) h63 hbytes hbase (fun v' w' q1 q2 _ => h v' w' (by simpa using q1) q2)
  · refine wpList_append_own w hgd s x t ho base e i z 1 bytes ht hi hz hsize hby hzs (by decide) v n cs hs hown ⟨b, off, none⟩ ys.length cap (ys.map (Value.int k)) hx (by simp) ?_ (ints_cells _) h63 hbytes hbase (fun v' w' q1 q2 _ => h v' w' q1 q2)
    intro j u hj
    have hjl : j < ys.length := by
      have := (List.getElem?_eq_some_iff.1 hj).1
      simpa using this
    rw [Go.WideShapes.add_plain, hc j hjl]
    simp [List.getD, hjl] at hj ⊢
    exact hj
end Go.Proofs.Yteodfbkfpboehaa

/- K -/
namespace Go.Proofs.Yteodfbkfpboehaa
open Go.RowKit
set_option linter.unusedVariables false

theorem ints_nil (k : IntKind) (w : World) : Ints k w (.slice none 0 0) [] := .inl ⟨none, 0, rfl, rfl, by simp, fun _ => rfl⟩
theorem Ints.shape {k : IntKind} {w : World} {v : Value} {xs : List Int} (h : Ints k w v xs) : ∃ a cap, v = .slice a xs.length cap := by
  rcases h with ⟨a, cap, rfl, rfl, hm, _⟩ | ⟨b, off, cap, rfl, h0, h1, hm, hc⟩
  · exact ⟨a, cap, rfl⟩
  · exact ⟨_, _, rfl⟩
theorem owns_built (w : World) (e : TypeId) (cur : Array Value) (hm : cur.size ≤ maxLen) :
    (w.alloc (.cells cur e)).ownsRow w.heap.size e 1 (.slice (some ⟨w.heap.size, 0, none⟩) cur.size cur.size) cur.size cur.toList :=
  ⟨by simp, .inr ⟨w.heap.size, cur.size, cur, rfl, Nat.le_refl _, heap_alloc_new w _, Nat.le_refl _, hm, by omega, by rw [Nat.mul_one]; exact List.take_of_length_le (by simp)⟩⟩
theorem owns_empty (w : World) (e : TypeId) : (w.alloc (.cells #[] e)).ownsRow w.heap.size e 1 (.slice (some ⟨w.heap.size, 0, none⟩) 0 0) 0 [] := owns_built w e #[] (by simp)
theorem owns_below {w w' : World} {base : Nat} {e : TypeId} {size : Nat} {v : Value} {n : Nat} {xs : List Value} (h : w.ownsRow base e size v n xs) (hb : Below w.heap.size w w') : w'.ownsRow base e size v n xs := by
  refine ⟨h.1, ?_⟩
  rcases h.2 with hn | ⟨g, cap, cur, rfl, hB, hg, rest⟩
  · exact .inl hn
  · exact .inr ⟨g, cap, cur, rfl, hB, (hb.block g (Array.getElem?_eq_some_iff.1 hg).1).trans hg, rest⟩
theorem owns_mono {w : World} {B B' : Nat} {e : TypeId} {size : Nat} {v : Value} {n : Nat} {xs : List Value} (h : w.ownsRow B e size v n xs) (hB : B' ≤ B) : w.ownsRow B' e size v n xs := by
  refine ⟨h.1, ?_⟩
  rcases h.2 with hn | ⟨g, cap, cur, rfl, hb, rest⟩
  · exact .inl hn
  · exact .inr ⟨g, cap, cur, rfl, by omega, rest⟩
theorem ints_built (k : IntKind) (w : World) (e : TypeId) (zs : List Int) (hm : zs.length ≤ maxLen) :
    Ints k (w.alloc (.cells (zs.map (Value.int k)).toArray e)) (.slice (some ⟨w.heap.size, 0, none⟩) zs.length zs.length) zs := by
  have h := owns_built w e (zs.map (Value.int k)).toArray (by simpa using hm)
  simp only [List.size_toArray, List.length_map] at h
  exact (Ints.of_owns (n := zs.length) h).1
theorem ints_single (k : IntKind) (w : World) (e : TypeId) (x : Int) :
    Ints k (w.alloc (.cells #[.int k x] e)) (.slice (some ⟨w.heap.size, 0, none⟩) 1 1) [x] := ints_built k w e [x] (by simp [maxLen])
/-- A constant's row, marked behind its last cell. -/
theorem ints_marked (k : IntKind) (w : World) (e : TypeId) (zs : List Int) (hm : zs.length ≤ maxLen) (fr : Nat × Nat) :
    Ints k (w.alloc (.cells (zs.map (Value.int k)).toArray e fr)) (.slice (some ⟨w.heap.size, 0, none⟩) zs.length zs.length) zs := by
  by_cases h0 : zs = []
  · subst h0
    exact .inl ⟨_, 0, rfl, rfl, by simp, by simp⟩
  · refine .inr ⟨w.heap.size, 0, zs.length, rfl, List.length_pos_iff.2 h0, Nat.le_refl _, hm, fun j hj => ?_⟩
    rw [cell_of_row (w.alloc (.cells (zs.map (Value.int k)).toArray e fr)) w.heap.size (0 + j) _ e fr (heap_alloc_new w _)]
    simp [List.getD, hj]
theorem blw_drewN {B : Nat} {a w : World} (h : Below B a w) (n : Nat) : Below B a (w.drewN n) := h.trans ⟨rfl, rfl, rfl, Nat.le_refl _, fun _ _ => rfl⟩
theorem str_app (p q : List Int) : strOfNums (p ++ q) = strOfNums p ++ strOfNums q := by
  apply ByteArray.ext
  rw [ByteArray.data_append]
  unfold strOfNums
  simp
/-- Two strings that are unlike, in the walk's spelling. -/
theorem str_ne {a b : ByteArray} (h : a ≠ b) : (a.toList == b.toList) = false := by
  rw [beq_eq_false_iff_ne, ByteArray.toList_eq, ByteArray.toList_eq]
  exact fun e => h (Go.WideShapes.bytes_inj e)
theorem take_snoc (xs : List Int) (j : Nat) (h : j < xs.length) : xs.take (j + 1) = xs.take j ++ [xs.getD j 0] := by
  rw [List.take_succ_eq_append_getElem h]; simp [List.getD, h]
theorem drop_cons (xs : List Int) (j : Nat) (h : j < xs.length) : xs.drop j = xs.getD j 0 :: xs.drop (j + 1) := by
  rw [List.drop_eq_getElem_cons h]; simp [List.getD, h]

theorem Ints.opened {k : IntKind} {w : World} {a : Option Addr} {n cap : Nat} {xs : List Int} (h : Ints k w (.slice a n cap) xs) (h0 : 0 < xs.length) :
    ∃ b off, a = some ⟨b, off, none⟩ ∧ n = xs.length ∧ xs.length ≤ cap ∧ cap ≤ maxLen ∧ (∀ j, j < xs.length → w.cell? ⟨b, off + j, none⟩ = some (.int k (xs.getD j 0))) := by
  rcases h with ⟨a, cap, hv, rfl, _⟩ | ⟨b, off, cap', hv, _, h1, hm, hc⟩
  · simp at h0
  · injection hv with e1 e2 e3
    subst e1 e2 e3
    exact ⟨b, off, rfl, rfl, h1, hm, hc⟩
theorem Ints.head {k : IntKind} {w : World} {b off cap j : Nat} {xs : List Int} (hj : j ≤ xs.length) (h1 : xs.length ≤ cap) (hm : cap ≤ maxLen)
    (hc : ∀ j, j < xs.length → w.cell? ⟨b, off + j, none⟩ = some (.int k (xs.getD j 0))) : Ints k w (.slice (some ⟨b, off, none⟩) j cap) (xs.take j) := by
  have hl : (xs.take j).length = j := by rw [List.length_take]; omega
  by_cases h0 : j = 0
  · subst h0
    exact .inl ⟨_, cap, rfl, by simp, hm, by simp⟩
  · refine .inr ⟨b, off, cap, by rw [hl], by omega, by omega, hm, fun i hi => ?_⟩
    rw [hl] at hi
    rw [hc i (by omega)]
    simp [List.getD, hi]
theorem Ints.cut {k : IntKind} {w : World} {b off cap j : Nat} {xs : List Int} (hj : j < xs.length) (h1 : xs.length ≤ cap) (hm : cap ≤ maxLen)
    (hc : ∀ j, j < xs.length → w.cell? ⟨b, off + j, none⟩ = some (.int k (xs.getD j 0))) : Ints k w (.slice (some ⟨b, off + j, none⟩) (xs.length - j) (cap - j)) (xs.drop j) := by
  refine .inr ⟨b, off + j, cap - j, by rw [List.length_drop], by rw [List.length_drop]; omega, by rw [List.length_drop]; omega, by omega, fun i hi => ?_⟩
  rw [List.length_drop] at hi
  have := hc (j + i) (by omega)
  rw [Nat.add_assoc, this]
  simp [List.getD]
/-- A part of a slice, as Go cuts it: at the capacity's end the address stays. -/
theorem Ints.mid {k : IntKind} {w : World} {a : Option Addr} {n cap lo hi : Nat} {xs : List Int} (h : Ints k w (.slice a n cap) xs) (h1 : lo ≤ hi) (h2 : hi ≤ xs.length) :
    (cap = lo → Ints k w (.slice a (hi - lo) 0) ((xs.take hi).drop lo)) ∧ (¬ cap = lo → Ints k w (.slice (a.map (·.add lo)) (hi - lo) (cap - lo)) ((xs.take hi).drop lo)) := by
  have hl : ((xs.take hi).drop lo).length = hi - lo := by rw [List.length_drop, List.length_take]; omega
  have hcm : cap ≤ maxLen ∧ (a = none → cap = 0) ∧ xs.length ≤ cap := by
    rcases h with ⟨a', cap', hv', hx, hm, hn⟩ | ⟨b, off, cap', hv', _, hc, hm, _⟩
    · injection hv' with e1 e2 e3; subst e1 e3; subst hx; exact ⟨hm, hn, by simp⟩
    · injection hv' with e1 e2 e3; subst e1 e3; exact ⟨hm, by simp, hc⟩
  have he : lo = hi → ∀ a' c, c ≤ maxLen → (a' = none → c = 0) → Ints k w (.slice a' (hi - lo) c) ((xs.take hi).drop lo) := by
    intro he a' c hc hn
    subst he
    exact .inl ⟨a', c, by rw [Nat.sub_self], by apply List.drop_eq_nil_of_le; rw [List.length_take]; omega, hc, hn⟩
  refine ⟨fun hc => he (by omega) _ _ (by omega) (fun _ => rfl), fun hc => ?_⟩
  by_cases h0 : lo = hi
  · refine he h0 _ _ (by omega) (fun hn => ?_)
    have := hcm.2.1 (by simpa using hn)
    omega
  · obtain ⟨b, off, ha, hn, hx, hm, hcc⟩ := h.opened (by omega)
    subst ha
    refine .inr ⟨b, off + lo, cap - lo, ?_, by omega, by omega, by omega, fun j hj => ?_⟩
    · rw [hl, Option.map_some, Go.WideShapes.add_plain]
    · rw [hl] at hj
      rw [Nat.add_assoc, hcc (lo + j) (by omega)]
      simp only [List.getD, List.getElem?_drop, List.getElem?_take]
      rw [if_pos (by omega)]
theorem Ints.tail {k : IntKind} {w : World} {a : Option Addr} {n cap lo : Nat} {xs : List Int} (h : Ints k w (.slice a n cap) xs) (h1 : lo ≤ xs.length) :
    (cap = lo → Ints k w (.slice a (xs.length - lo) 0) (xs.drop lo)) ∧ (¬ cap = lo → Ints k w (.slice (a.map (·.add lo)) (xs.length - lo) (cap - lo)) (xs.drop lo)) := by
  have := Ints.mid h h1 (Nat.le_refl _)
  rwa [List.take_of_length_le (Nat.le_refl _)] at this

/-- make([]T, l, c) of integers. -/
theorem wpList_make_ints {P : Program} (w : World) {ops : Array Oper} {rest : List Oper} {o : Oper} {a : Act} {Q : Exit → Act → World → Prop}
    (hg : o.guard = none) (l c : Operand) (t : TypeId) (hop : o.op = Op.makeSlice t l c)
    (base : Nat) (e : TypeId) (i : TypeInfo) (k : IntKind) (h1 : P.underlying t = some (.slice e)) (h2 : P.info? e = some i) (h3 : i.zero = some (.int k 0)) (h4 : i.size = 1)
    (kl kc : IntKind) (L C : Int) (n m : Nat) (hl : a.eval l = .int kl L) (hc : a.eval c = .int kc C) (hL : L = (n : Int)) (hC : C = (m : Int)) (hnm : n ≤ m) (b2 : i.bytes * m ≤ 281474976710656) (b3 : m ≤ maxLen) (b4 : base ≤ w.heap.size)
    (hK : ∀ w', w'.ownsRow base e 1 (.slice (some ⟨w.heap.size, 0, none⟩) n m) n (List.replicate n (.int k 0)) → w.grownBy w' none → wpList P ops Q rest (a.put o.dst (.slice (some ⟨w.heap.size, 0, none⟩) n m)) w') :
    wpList P ops Q (o :: rest) a w := by
  refine wpList_plain hg fun K hK' => ?_
  subst hL
  subst hC
  have hb' : (i.bytes : Int) * (m : Int) ≤ 281474976710656 := by
    have h : ((i.bytes * m : Nat) : Int) ≤ 281474976710656 := by omega
    rwa [Int.natCast_mul] at h
  have hrun := run_make (P := P) w t e i (.int k 0) h1 h2 h3 kl kc n m (by omega) (by omega) hb' (by unfold maxLen at b3; omega)
  simp only [Int.toNat_natCast, h4, Nat.mul_one] at hrun
  unfold Oper.wp
  simp [execOp, hop, hl, hc, hrun, Result.andThen]
  refine hK' _ _ (hK _ ⟨by simp, .inr ⟨w.heap.size, m, _, rfl, b4, heap_alloc_new w _, hnm, b3, by rw [size_madeCells, Nat.mul_one], ?_⟩⟩ (World.grownBy_alloc w _ none))
  have : (Value.int k 0).cells = #[.int k 0] := rfl
  rw [this, toList_madeCells_one, List.take_replicate, Nat.mul_one, Nat.min_eq_left hnm]

/-- copy(dst, src) of integers, dst the call's own. -/
theorem wpList_copy_ints {P : Program} {w : World} {ops : Array Oper} {rest : List Oper} {o : Oper} {a : Act} {Q : Exit → Act → World → Prop} (hgd : o.guard = none) (d s : Operand) (dT sT : TypeId)
    (ho : o.op = .call { callee := .builtin .copy, args := #[d, s], argTypes := #[dT, sT] }) (elem : TypeId) (hu : P.underlying dT = some (.slice elem)) (hsz : (P.info? elem).map (·.size) = some 1)
    (B : Nat) (k : IntKind) (v u : Value) (n : Nat) (xs : List Value) (ys : List Int) (hown : w.ownsRow B elem 1 v n xs) (hys : Ints k w u ys) (hd : a.eval d = v) (hs : a.eval s = u) (hle : ys.length ≤ n)
    (h : ∀ w', w'.ownsRow B elem 1 v n (ys.map (Value.int k) ++ xs.drop ys.length) → w.grownBy w' v.ownBlock → wpList P ops Q rest (a.put o.dst (goInt ys.length)) w') :
    wpList P ops Q (o :: rest) a w := by
  obtain ⟨sp, scap, rfl⟩ := hys.shape
  by_cases h0 : ys = []
  · subst h0
    obtain ⟨dp, dcap, rfl⟩ : ∃ dp dcap, v = .slice dp n dcap := by
      rcases hown.2 with ⟨rfl, rfl⟩ | ⟨g, cap, cur, rfl, _⟩
      · exact ⟨none, 0, rfl⟩
      · exact ⟨_, _, rfl⟩
    refine wpList_copy_nothing hgd d s dT sT ho elem hu hsz dp sp n dcap 0 scap hd hs (Nat.zero_min _) ?_
    exact h w (by simpa using hown) ⟨rfl, rfl, rfl, Nat.le_refl _, fun _ _ _ => rfl⟩
  · have hpos : 0 < ys.length := List.length_pos_iff.2 h0
    obtain ⟨b, off, rfl, -, hcap, hm, hc⟩ := hys.opened hpos
    rcases hown.2 with ⟨rfl, h0⟩ | ⟨g, cap, cur, rfl, hBg, hg, hnc, hcm, hcs, htake⟩
    · omega
    · refine wpList_copy_own hgd d s dT sT ho elem hu hsz g 0 n cap ⟨b, off, none⟩ ys.length scap hd hs cur elem hg (ys.map (Value.int k)) ?_ ?_ ?_ (ints_cells _) ?_
      · rw [List.length_map]; exact (Nat.min_eq_left hle).symm
      · intro j u hj
        have hjl : j < ys.length := by
          have := (List.getElem?_eq_some_iff.1 hj).1
          simpa using this
        rw [Go.WideShapes.add_plain, hc j hjl]
        simp [List.getD, hjl] at hj ⊢
        exact hj
      · simp; omega
      · have hxl : xs.length = n := by have := hown.1; simp at this; omega
        rw [List.length_map]
        refine h _ ⟨?_, .inr ⟨g, cap, _, rfl, hBg, setRow_heap w g cur _ elem _ hg, hnc, hcm, ?_, ?_⟩⟩ ⟨rfl, rfl, rfl, by simp, fun j _ hj => setRow_other w g j _ (fun e => hj (by simp [Value.ownBlock, e]))⟩
        · simp; omega
        · simp; omega
        · simp only [List.take_zero, List.nil_append, Nat.zero_add, Nat.mul_one] at htake ⊢
          rw [List.take_append, List.take_of_length_le (by simp; omega), List.length_map]
          congr 1
          rw [← List.drop_take, htake]

/-- string([]byte) of whatever slice. -/
theorem conv_str {P : Program} (T S E : TypeId) (hT : P.underlying T = some (.slice E)) (hE : P.underlying E = some (.int .u8)) (hS : P.underlying S = some .string) (v : Value) (bs : List Int) (w : World) (hv : Ints .u8 w v bs) : (convert T S v).run P w = .ok (.string (strOfNums bs)) w := by
  rcases hv with ⟨a, cap, rfl, rfl, hm, ha⟩ | ⟨b, off, cap, rfl, h0, h1, hm, hc⟩
  · cases a with
    | none => exact run_convert_bytes_nil w _ _ hT hE 0 cap _ hS
    | some x =>
      rw [run_convert_bytes_string w _ _ _ _ 0 cap hT hE hS, run_bytesToString w x 0 cap [] (by simpa using run_loadCells_list (P := P) w x [] (by intro j v hj; simp at hj))]
      rfl
  · exact run_convert_bytes_arg w _ _ hT hE b off bs.length cap bs rfl hc _ hS
end Go.Proofs.Yteodfbkfpboehaa

/- K2 -/
namespace Go.Proofs.Yteodfbkfpboehaa
open Go.RowKit
set_option linter.unusedVariables false

/-- Behind a call that only makes memory: old cells and old marks read as before. -/
theorem bcell {W w1 : World} (hb : Below W.heap.size W w1) : (∀ b o, b < W.heap.size → w1.cell? ⟨b, o, none⟩ = W.cell? ⟨b, o, none⟩) ∧ (∀ b o, b < W.heap.size → w1.frozen? ⟨b, o, none⟩ = W.frozen? ⟨b, o, none⟩) :=
  ⟨fun b o h => hb.cell (p := ⟨b, o, none⟩) h, fun b o h => hb.frozen (p := ⟨b, o, none⟩) h⟩
theorem below_add {B : Nat} {a b c : World} (h : Below B a b) (k : Below b.heap.size b c) (hB : B ≤ b.heap.size) : Below B a c := h.trans (k.mono hB)
end Go.Proofs.Yteodfbkfpboehaa

/- Q -/
namespace Go.Proofs.Yteodfbkfpboehaa
open Go.RowKit
set_option linter.unusedVariables false

section
variable {P : Program} {ops : Array Oper} {C : World → Prop} {Q : Act → Prop} {a : Act} {o : Oper} {rest : List Oper}
/-- A region that draws its order, whose operations yield one value in every world of a class and stay in the class: walked once, in the text's order. -/
theorem region_class {id : Nat} {Q' : Exit → Act → World → Prop} {w : World} {l : List Oper} (hm : P.follows .mixedOrders = true) (hB : Region.lexB .any l.toArray = true) (hC : C w.drew)
    (h : wpQuiet P l.toArray C (fun a' => ∀ w', C w' → Q' .normal a' w') l a) : (Code.region id l.toArray true).wp P Q' a w :=
  wp_region_quiet hm hB hC (by simpa using h)
/-- Passed over. -/
theorem q_skip (hw : Region.wanted o (yielded ops a.tmps) = false) (k : wpQuiet P ops C Q rest (a.put o.dst undef)) : wpQuiet P ops C Q (o :: rest) a := by
  unfold wpQuiet; rw [hw]; exact k
/-- A value. -/
theorem q_val {v : Value} (hw : Region.wanted o (yielded ops a.tmps) = true) (hv : ∀ w, C w → (execOp a.eval o).run P w = .ok (.value v) w) (k : wpQuiet P ops C Q rest (a.put o.dst v)) : wpQuiet P ops C Q (o :: rest) a := by
  unfold wpQuiet; rw [if_pos hw]
  exact ⟨v, fun w hc => by unfold Oper.quietAt; rw [hv w hc]; exact ⟨rfl, rfl⟩, k⟩
/-- A call of a function by its contract. -/
theorem q_call {v : Value} {f : FuncId} {args : Array Value} (hw : Region.wanted o (yielded ops a.tmps) = true) (hv : ∀ w, C w → (execOp a.eval o).run P w = .ok (.enter f args) w)
    (hc : ∀ w, C w → Calls P f args w fun e w' => e = .returned v ∧ C w') (k : wpQuiet P ops C Q rest (a.put o.dst v)) : wpQuiet P ops C Q (o :: rest) a := by
  unfold wpQuiet; rw [if_pos hw]
  exact ⟨v, fun w h => by unfold Oper.quietAt; rw [hv w h]; exact ⟨rfl, hc w h⟩, k⟩
theorem q_end (h : Q a) : wpQuiet P ops C Q [] a := h
end
end Go.Proofs.Yteodfbkfpboehaa

/- A1: rows of whatever lies in m cells -/
namespace Go.Proofs.Yteodfbkfpboehaa
open Go.RowKit
set_option linter.unusedVariables false

/-- How an element lies: m cells, each whole. -/
structure Cel (α : Type) where
  c : α → List Value
  m : Nat
  len : ∀ x, (c x).length = m
  one : ∀ x, ∀ u ∈ c x, u.oneCell' = true
  pos : 0 < m

section
variable {α : Type} (C : Cel α)
def fl (xs : List α) : List Value := xs.flatMap C.c
theorem fl_nil : fl C [] = [] := rfl
theorem fl_cons (x : α) (r : List α) : fl C (x :: r) = C.c x ++ fl C r := rfl
theorem fl_app (a b : List α) : fl C (a ++ b) = fl C a ++ fl C b := by simp [fl]
theorem fl_one (x : α) : fl C [x] = C.c x := by simp [fl]
theorem fl_len : ∀ xs : List α, (fl C xs).length = xs.length * C.m
  | [] => by simp [fl]
  | x :: r => by rw [fl_cons, List.length_append, fl_len r, C.len, List.length_cons, Nat.add_mul]; omega
theorem fl_ones (xs : List α) : ∀ u ∈ fl C xs, u.oneCell' = true := by
  intro u hu
  obtain ⟨x, _, hx⟩ := List.mem_flatMap.1 hu
  exact C.one x u hx
theorem fl_get : ∀ (xs : List α) (j i : Nat) (hj : j < xs.length), i < C.m → (fl C xs)[j * C.m + i]? = (C.c xs[j])[i]?
  | x :: r, 0, i, _, hi => by
    rw [fl_cons, List.getElem?_append_left (by rw [C.len]; omega)]
    simp
  | x :: r, j + 1, i, hj, hi => by
    have e : (j + 1) * C.m + i = C.m + (j * C.m + i) := by rw [Nat.add_mul]; omega
    rw [fl_cons, List.getElem?_append_right (by rw [C.len]; omega)]
    have : (j + 1) * C.m + i - (C.c x).length = j * C.m + i := by rw [C.len]; omega
    rw [this, fl_get r j i (by simpa using hj) hi]
    simp
/-- A slice that reads as xs. -/
def Row (w : World) (v : Value) (xs : List α) : Prop :=
  (∃ a cap, v = .slice a 0 cap ∧ xs = [] ∧ cap ≤ maxLen ∧ (a = none → cap = 0)) ∨
  ∃ b off cap, v = .slice (some ⟨b, off, none⟩) xs.length cap ∧ 0 < xs.length ∧ xs.length ≤ cap ∧ cap ≤ maxLen ∧
    (∀ j u, (fl C xs)[j]? = some u → w.cell? ⟨b, off + j, none⟩ = some u)
variable {C}
theorem Row.below {B : Nat} {w w' : World} {v : Value} {xs : List α} (h : Row C w v xs) (hb : Below B w w') (hB : w.heap.size ≤ B) : Row C w' v xs := by
  rcases h with h | ⟨b, off, cap, rfl, h0, h1, h2, h3⟩
  · exact .inl h
  · refine .inr ⟨b, off, cap, rfl, h0, h1, h2, fun j u hu => ?_⟩
    have := h3 j u hu
    rw [← this]
    exact hb.cell (p := ⟨b, off + j, none⟩) (Nat.lt_of_lt_of_le (World.block_lt_of_cell? w _ this) hB)
theorem Row.shape {w : World} {v : Value} {xs : List α} (h : Row C w v xs) : ∃ a cap, v = .slice a xs.length cap := by
  rcases h with ⟨a, cap, rfl, rfl, hm, _⟩ | ⟨b, off, cap, rfl, h0, h1, hm, hc⟩
  · exact ⟨a, cap, rfl⟩
  · exact ⟨_, _, rfl⟩
theorem Row.len {w : World} {v : Value} {xs : List α} (h : Row C w v xs) : xs.length ≤ 9223372036854775807 := by
  rcases h with ⟨a, cap, rfl, rfl, _⟩ | ⟨b, off, cap, rfl, h0, h1, h2, h3⟩
  · simp
  · unfold maxLen at h2; omega
theorem Row.nil (w : World) : Row C w (.slice none 0 0) [] := .inl ⟨none, 0, rfl, rfl, by simp, fun _ => rfl⟩
theorem Row.opened {w : World} {a : Option Addr} {n cap : Nat} {xs : List α} (h : Row C w (.slice a n cap) xs) (h0 : 0 < xs.length) :
    ∃ b off, a = some ⟨b, off, none⟩ ∧ n = xs.length ∧ xs.length ≤ cap ∧ cap ≤ maxLen ∧ b < w.heap.size ∧
      (∀ j (hj : j < xs.length) i u, (C.c xs[j])[i]? = some u → w.cell? ⟨b, off + j * C.m + i, none⟩ = some u) ∧ (∀ j u, (fl C xs)[j]? = some u → w.cell? ⟨b, off + j, none⟩ = some u) := by
  rcases h with ⟨a, cap, hv, rfl, _⟩ | ⟨b, off, cap', hv, _, h1, hm, hc⟩
  · simp at h0
  · injection hv with e1 e2 e3
    subst e1 e2 e3
    have hat : ∀ j (hj : j < xs.length) i u, (C.c xs[j])[i]? = some u → w.cell? ⟨b, off + j * C.m + i, none⟩ = some u := fun j hj i u hu => by
      have hi : i < C.m := by have := (List.getElem?_eq_some_iff.1 hu).1; rwa [C.len] at this
      have := hc (j * C.m + i) u ((fl_get C xs j i hj hi).trans hu)
      rwa [← Nat.add_assoc] at this
    have hb : b < w.heap.size := by
      have hp : 0 < (C.c xs[0]).length := by rw [C.len]; exact C.pos
      exact World.block_lt_of_cell? w _ (hat 0 h0 0 _ (List.getElem?_eq_getElem hp))
    exact ⟨b, off, rfl, rfl, h1, hm, hb, hat, hc⟩
/-- A row that the call owns reads as what it owns. -/
theorem Row.of_owns {w : World} {base : Nat} {e : TypeId} {v : Value} {n : Nat} {xs : List α} (h : w.ownsRow base e C.m v n (fl C xs)) : Row C w v xs ∧ n = xs.length := by
  have hn : n = xs.length := by have := h.1; rw [fl_len] at this; exact (Nat.eq_of_mul_eq_mul_right C.pos this).symm
  subst hn
  refine ⟨?_, rfl⟩
  by_cases hx : xs = []
  · subst hx
    rcases h.2 with ⟨rfl, _⟩ | ⟨g, cap, cur, rfl, hb, hg, hc, hm, _⟩
    · exact .inl ⟨none, 0, rfl, rfl, by simp, fun _ => rfl⟩
    · exact .inl ⟨_, cap, rfl, rfl, hm, by simp⟩
  · have hpos : 0 < xs.length := List.length_pos_iff.2 hx
    rcases h.2 with ⟨rfl, h0⟩ | ⟨g, cap, cur, hv, hb, hg, hc, hm, _⟩
    · omega
    · subst hv
      refine .inr ⟨g, 0, cap, rfl, hpos, hc, hm, fun j u hu => ?_⟩
      have := h.cells (g := g) rfl j u hu
      rw [Go.WideShapes.add_plain] at this
      simpa using this
/-- The block of a row that the call owns lies from its base on. -/
theorem own_base {w : World} {base : Nat} {e : TypeId} {size : Nat} {v : Value} {n : Nat} {xs : List Value} (h : w.ownsRow base e size v n xs) {k : Nat} (hk : v.ownBlock = some k) : base ≤ k := by
  rcases h.2 with ⟨rfl, _⟩ | ⟨g, cap, cur, rfl, hb, _⟩
  · simp [Value.ownBlock] at hk
  · simp [Value.ownBlock] at hk; omega
theorem Row.built (w : World) (t : TypeId) (xs : List α) (hm : xs.length ≤ maxLen) : Row C (w.alloc (.cells (fl C xs).toArray t)) (.slice (some ⟨w.heap.size, 0, none⟩) xs.length xs.length) xs := by
  by_cases h0 : xs = []
  · subst h0; exact .inl ⟨_, 0, rfl, rfl, by simp, by simp⟩
  · refine .inr ⟨_, 0, _, rfl, List.length_pos_iff.2 h0, Nat.le_refl _, hm, fun j u hu => ?_⟩
    rw [cell_of_row (w.alloc (.cells (fl C xs).toArray t)) w.heap.size (0 + j) _ t (0, 0) (heap_alloc_new w _), ← hu]
    simp
theorem row_mid_len (xs : List α) {lo hi : Nat} (h1 : lo ≤ hi) (h2 : hi ≤ xs.length) : ((xs.take hi).drop lo).length = hi - lo := by rw [List.length_drop, List.length_take]; omega
/-- A part of a slice, as Go cuts it. -/
theorem Row.mid {w : World} {a : Option Addr} {n cap lo hi : Nat} {xs : List α} (h : Row C w (.slice a n cap) xs) (h1 : lo ≤ hi) (h2 : hi ≤ xs.length) :
    Row C w (sliced a lo hi cap C.m) ((xs.take hi).drop lo) := by
  have hl := row_mid_len xs h1 h2
  have hcm : cap ≤ maxLen ∧ (a = none → cap = 0) ∧ xs.length ≤ cap := by
    rcases h with ⟨a', cap', hv', hx, hm, hn⟩ | ⟨b, off, cap', hv', _, hc, hm, _⟩
    · injection hv' with e1 e2 e3; subst e1 e3; subst hx; exact ⟨hm, hn, by simp⟩
    · injection hv' with e1 e2 e3; subst e1 e3; exact ⟨hm, by simp, hc⟩
  unfold sliced
  by_cases h0 : lo = hi
  · subst h0
    refine .inl ⟨_, cap - lo, by rw [Nat.sub_self], by apply List.drop_eq_nil_of_le; rw [List.length_take]; omega, by omega, fun hn => ?_⟩
    split at hn
    · have := hcm.2.1 hn; omega
    · have := hcm.2.1 (by simpa using hn); omega
  · obtain ⟨b, off, ha, hn, hx, hm, hbl, -, hcc⟩ := h.opened (by omega)
    subst ha
    rw [if_neg (by omega)]
    refine .inr ⟨b, off + lo * C.m, cap - lo, ?_, by omega, by omega, by omega, fun j u hu => ?_⟩
    · rw [hl, Option.map_some, Go.WideShapes.add_plain]
    · have hj : j < (hi - lo) * C.m := by
        have := (List.getElem?_eq_some_iff.1 hu).1
        rwa [fl_len, hl] at this
      have e : fl C xs = fl C (xs.take lo) ++ (fl C ((xs.take hi).drop lo) ++ fl C (xs.drop hi)) := by
        rw [← fl_app, ← fl_app]
        congr 1
        have e2 : xs.take lo = (xs.take hi).take lo := by rw [List.take_take, Nat.min_eq_left h1]
        rw [e2, ← List.append_assoc, List.take_append_drop, List.take_append_drop]
      have hlo : (fl C (xs.take lo)).length = lo * C.m := by rw [fl_len, List.length_take, Nat.min_eq_left (by omega)]
      have : (fl C xs)[lo * C.m + j]? = some u := by
        rw [e, List.getElem?_append_right (by omega), hlo, Nat.add_sub_cancel_left, List.getElem?_append_left (by rw [fl_len, hl]; exact hj)]
        exact hu
      rw [Nat.add_assoc]
      exact hcc _ _ this
theorem Row.headed {w : World} {a : Option Addr} {n cap hi : Nat} {xs : List α} (h : Row C w (.slice a n cap) xs) (h2 : hi ≤ xs.length) : Row C w (sliced a 0 hi cap C.m) (xs.take hi) := by
  have := h.mid (Nat.zero_le hi) h2
  simpa using this
theorem Row.tailed {w : World} {a : Option Addr} {n cap lo : Nat} {xs : List α} (h : Row C w (.slice a n cap) xs) (h1 : lo ≤ xs.length) : Row C w (sliced a lo xs.length cap C.m) (xs.drop lo) := by
  have := h.mid h1 (Nat.le_refl _)
  rwa [List.take_of_length_le (Nat.le_refl _)] at this

theorem Row.head {w : World} {a : Option Addr} {n cap hi : Nat} {xs : List α} (h : Row C w (.slice a n cap) xs) (h2 : hi ≤ xs.length) : Row C w (.slice a hi cap) (xs.take hi) := by
  have := h.headed h2
  unfold sliced at this
  have e : (if cap = 0 then a else a.map (·.add (0 * C.m))) = a := by
    split
    · rfl
    · rw [Nat.zero_mul]
      cases a with
      | none => rfl
      | some x => obtain ⟨b, o, s⟩ := x; simp [Addr.add]
  rw [e] at this
  simpa using this
theorem Row.tail {w : World} {a : Option Addr} {n cap lo : Nat} {xs : List α} (h : Row C w (.slice a n cap) xs) (h1 : lo ≤ xs.length) :
    (cap = lo → Row C w (.slice a (xs.length - lo) 0) (xs.drop lo)) ∧ (¬ cap = lo → Row C w (.slice (a.map fun x => x.add (lo * C.m)) (xs.length - lo) (cap - lo)) (xs.drop lo)) := by
  have := h.tailed h1
  unfold sliced at this
  refine ⟨fun hc => ?_, fun hc => ?_⟩
  · rw [if_pos hc, hc, Nat.sub_self] at this; exact this
  · rw [if_neg hc] at this; exact this

/-- append(out, src...): out the call's own, src whatever slice, nil too. -/
theorem wpList_append_row {P : Program} {w : World} {ops : Array Oper} {rest : List Oper} {o : Oper} {a : Act} {Q : Exit → Act → World → Prop} (hgd : o.guard = none) (s x : Operand) (t : TypeId)
    (ho : o.op = .call { callee := .builtin .append, args := #[s, x], argTypes := #[t, t] })
    (base : Nat) (e : TypeId) (i : TypeInfo) (z : Value) (bytes : Nat) (ht : P.underlying t = some (.slice e)) (hi : P.info? e = some i) (hz : i.zero = some z)
    (hsize : i.size = C.m) (hby : i.bytes = bytes) (hzs : z.cells.size = C.m)
    (v : Value) (n : Nat) (cs : List Value) (hs : a.eval s = v) (hown : w.ownsRow base e C.m v n cs)
    (u : Value) (ys : List α) (hx : a.eval x = u) (hu : Row C w u ys)
    (h63 : n + ys.length ≤ maxLen) (hbytes : (n + ys.length) * bytes ≤ 140737488355328) (hbase : base ≤ w.heap.size)
    (h : ∀ v' w', w'.ownsRow base e C.m v' (n + ys.length) (cs ++ fl C ys) → w.grownBy w' v.ownBlock → wpList P ops Q rest (a.put o.dst v') w') : wpList P ops Q (o :: rest) a w := by
  rcases hu with ⟨ad, cap, rfl, rfl, hm, hc0⟩ | ⟨b, off, cap, rfl, h0, h1, hm, hc⟩
  · cases ad with
    | none =>
      obtain rfl := hc0 rfl
      exact wpList_append_own_none hgd s x t ho base e i C.m ht hi v n cs hs hown hx (h v w (by simpa [fl_nil] using hown) (grown_refl _ _))
    | some ad =>
      exact wpList_append_own w hgd s x t ho base e i z C.m bytes ht hi hz hsize hby hzs C.pos v n cs hs hown ad 0 cap [] hx (by simp) (by intro j u hj; simp at hj) (by intro u hu; cases hu) h63 hbytes hbase (fun v' w' q1 q2 _ => h v' w' (by simpa [fl_nil] using q1) q2)
  · refine wpList_append_own w hgd s x t ho base e i z C.m bytes ht hi hz hsize hby hzs C.pos v n cs hs hown ⟨b, off, none⟩ ys.length cap (fl C ys) hx (fl_len C ys) ?_ (fl_ones C ys) h63 hbytes hbase (fun v' w' q1 q2 _ => h v' w' q1 q2)
    intro j u hj
    rw [Go.WideShapes.add_plain]
    exact hc j u hj
end
section
variable {P : Program} {ops : Array Oper} {C : World → Prop} {Q : Act → Prop} {a : Act} {o : Oper} {rest : List Oper}
/-- The class walk, closed in a structure: else each tactic that looks at its goal's head runs the region. -/
structure WQ (P : Program) (ops : Array Oper) (C : World → Prop) (Q : Act → Prop) (l : List Oper) (a : Act) : Prop where
  out : wpQuiet P ops C Q l a
theorem region_classw {id : Nat} {Q' : Exit → Act → World → Prop} {w : World} {l : List Oper} (hm : P.follows .mixedOrders = true) (hB : Region.lexB .any l.toArray = true) (hC : C w.drew)
    (h : WQ P l.toArray C (fun a' => ∀ w', C w' → Q' .normal a' w') l a) : (Code.region id l.toArray true).wp P Q' a w := region_class hm hB hC h.out
theorem w_skip {j : Nat} {want : Bool} (hg : o.guard = some (j, want)) (hy : yielded ops a.tmps j = some (!want)) (k : WQ P ops C Q rest (a.put o.dst undef)) : WQ P ops C Q (o :: rest) a :=
  ⟨q_skip (by unfold Region.wanted; rw [hg]; simp only [hy]; cases want <;> rfl) k.out⟩
theorem w_skipn {j : Nat} {want : Bool} (hg : o.guard = some (j, want)) (hy : yielded ops a.tmps j = none) (k : WQ P ops C Q rest (a.put o.dst undef)) : WQ P ops C Q (o :: rest) a :=
  ⟨q_skip (by unfold Region.wanted; rw [hg]; simp only [hy]; rfl) k.out⟩
theorem w_valg {j : Nat} {want : Bool} {v : Value} (hg : o.guard = some (j, want)) (hy : yielded ops a.tmps j = some want) (hv : ∀ w, C w → (execOp a.eval o).run P w = .ok (.value v) w) (k : WQ P ops C Q rest (a.put o.dst v)) : WQ P ops C Q (o :: rest) a :=
  ⟨q_val (by unfold Region.wanted; rw [hg]; simp only [hy]; cases want <;> rfl) hv k.out⟩
theorem w_val {v : Value} (hg : o.guard = none) (hv : ∀ w, C w → (execOp a.eval o).run P w = .ok (.value v) w) (k : WQ P ops C Q rest (a.put o.dst v)) : WQ P ops C Q (o :: rest) a :=
  ⟨q_val (by unfold Region.wanted; rw [hg]) hv k.out⟩
theorem w_callg {j : Nat} {want : Bool} {v : Value} {f : FuncId} {args : Array Value} (hg : o.guard = some (j, want)) (hy : yielded ops a.tmps j = some want) (hv : ∀ w, C w → (execOp a.eval o).run P w = .ok (.enter f args) w)
    (hc : ∀ w, C w → Calls P f args w fun e w' => e = .returned v ∧ C w') (k : WQ P ops C Q rest (a.put o.dst v)) : WQ P ops C Q (o :: rest) a :=
  ⟨q_call (by unfold Region.wanted; rw [hg]; simp only [hy]; cases want <;> rfl) hv hc k.out⟩
theorem w_call {v : Value} {f : FuncId} {args : Array Value} (hg : o.guard = none) (hv : ∀ w, C w → (execOp a.eval o).run P w = .ok (.enter f args) w)
    (hc : ∀ w, C w → Calls P f args w fun e w' => e = .returned v ∧ C w') (k : WQ P ops C Q rest (a.put o.dst v)) : WQ P ops C Q (o :: rest) a :=
  ⟨q_call (by unfold Region.wanted; rw [hg]) hv hc k.out⟩
theorem w_end (h : Q a) : WQ P ops C Q [] a := ⟨q_end h⟩
end

end Go.Proofs.Yteodfbkfpboehaa

/- Y1 -/
namespace Go.Proofs.Yteodfbkfpboehaa
open Go.RowKit
set_option linter.unusedVariables false

/-- A value as the program lays it: kind, number, bits, text. -/
@[reducible] def val (k n f : Int) (s : ByteArray) : Value := .agg #[.int .u8 k, .int .i64 n, .int .u64 f, .string s]
@[reducible] def vcells (k n f : Int) (s : ByteArray) : Array Value := #[.int .u8 k, .int .i64 n, .int .u64 f, .string s]

end Go.Proofs.Yteodfbkfpboehaa

/- YM1 -/
namespace Go.Proofs.Yteodfbkfpboehaa
set_option linter.unusedVariables false

end Go.Proofs.Yteodfbkfpboehaa

/- Y2 -/
namespace Go.Proofs.Yteodfbkfpboehaa
open Go.RowKit
set_option linter.unusedVariables false

end Go.Proofs.Yteodfbkfpboehaa

/- YM2 -/
namespace Go.Proofs.Yteodfbkfpboehaa
set_option linter.unusedVariables false

end Go.Proofs.Yteodfbkfpboehaa

/- Y3 -/
namespace Go.Proofs.Yteodfbkfpboehaa
open Go.RowKit
set_option linter.unusedVariables false

end Go.Proofs.Yteodfbkfpboehaa

/- Y4 -/
namespace Go.Proofs.Yteodfbkfpboehaa
open Go.RowKit
set_option linter.unusedVariables false

end Go.Proofs.Yteodfbkfpboehaa

/- Y5 -/
namespace Go.Proofs.Yteodfbkfpboehaa
open Go.RowKit
set_option linter.unusedVariables false

end Go.Proofs.Yteodfbkfpboehaa

/- A2: attributes as plain data -/
namespace Go.Proofs.Yteodfbkfpboehaa
open Go.RowKit
set_option linter.unusedVariables false

/-- An attribute: its key, and the value's kind, number, bits, text. -/
structure Att where
  key : Int
  k : Int
  n : Int
  f : Int
  s : ByteArray
deriving DecidableEq

@[reducible] def av (a : Att) : Value := .agg #[.int .i64 a.key, .int .u8 a.k, .int .i64 a.n, .int .u64 a.f, .string a.s]
@[reducible] def ac (a : Att) : List Value := [.int .i64 a.key, .int .u8 a.k, .int .i64 a.n, .int .u64 a.f, .string a.s]
@[reducible] def aca (a : Att) : Array Value := #[.int .i64 a.key, .int .u8 a.k, .int .i64 a.n, .int .u64 a.f, .string a.s]
@[reducible] def noAtt : Att := ⟨0, 0, 0, 0, ⟨#[]⟩⟩
instance : Inhabited Att := ⟨noAtt⟩
/-- An attribute's value. -/
@[reducible] def vv (a : Att) : Value := val a.k a.n a.f a.s

theorem ac_one (a : Att) : ∀ u ∈ ac a, u.oneCell' = true := by
  intro u hu
  simp at hu
  rcases hu with rfl | rfl | rfl | rfl | rfl <;> rfl
/-- How an attribute lies: five cells. -/
def attC : Cel Att := ⟨ac, 5, fun _ => rfl, ac_one, by decide⟩
theorem attC_m : attC.m = 5 := rfl
theorem attC_c (a : Att) : attC.c a = ac a := rfl

/-- What an attribute's numbers are within. -/
structure AttW (a : Att) : Prop where
  key : (Lit.int .i64 a.key).wf = true
  k : (Lit.int .u8 a.k).wf = true
  n : (Lit.int .i64 a.n).wf = true
  f : (Lit.int .u64 a.f).wf = true
  s : a.s.size ≤ maxLen
theorem AttW.f0 {a : Att} (h : AttW a) : 0 ≤ a.f := by have := Go.bounds_u64 h.f; omega
theorem AttW.f1 {a : Att} (h : AttW a) : a.f < 18446744073709551616 := by have := Go.bounds_u64 h.f; omega

/-- Its five cells at a place; at a block's head. -/
@[reducible] def AAt (b o : Nat) (a : Att) (w : World) : Prop :=
  w.cell? ⟨b, o, none⟩ = some (.int .i64 a.key) ∧ w.cell? ⟨b, o + 1, none⟩ = some (.int .u8 a.k) ∧ w.cell? ⟨b, o + 2, none⟩ = some (.int .i64 a.n) ∧ w.cell? ⟨b, o + 3, none⟩ = some (.int .u64 a.f) ∧ w.cell? ⟨b, o + 4, none⟩ = some (.string a.s)
@[reducible] def ABox (b : Nat) (a : Att) (w : World) : Prop :=
  w.cell? ⟨b, 0, none⟩ = some (.int .i64 a.key) ∧ w.cell? ⟨b, 1, none⟩ = some (.int .u8 a.k) ∧ w.cell? ⟨b, 2, none⟩ = some (.int .i64 a.n) ∧ w.cell? ⟨b, 3, none⟩ = some (.int .u64 a.f) ∧ w.cell? ⟨b, 4, none⟩ = some (.string a.s)
theorem AAt.below {B b o : Nat} {a : Att} {w w' : World} (h : AAt b o a w) (hb : Below B w w') (hB : b < B) : AAt b o a w' := by
  obtain ⟨h0, h1, h2, h3, h4⟩ := h
  exact ⟨(hb.cell (p := ⟨b, _, none⟩) hB).trans h0, (hb.cell (p := ⟨b, _, none⟩) hB).trans h1, (hb.cell (p := ⟨b, _, none⟩) hB).trans h2, (hb.cell (p := ⟨b, _, none⟩) hB).trans h3, (hb.cell (p := ⟨b, _, none⟩) hB).trans h4⟩
theorem ABox.below {B b : Nat} {a : Att} {w w' : World} (h : ABox b a w) (hb : Below B w w') (hB : b < B) : ABox b a w' := by
  obtain ⟨h0, h1, h2, h3, h4⟩ := h
  exact ⟨(hb.cell (p := ⟨b, _, none⟩) hB).trans h0, (hb.cell (p := ⟨b, _, none⟩) hB).trans h1, (hb.cell (p := ⟨b, _, none⟩) hB).trans h2, (hb.cell (p := ⟨b, _, none⟩) hB).trans h3, (hb.cell (p := ⟨b, _, none⟩) hB).trans h4⟩
theorem ABox.box (a : Att) (w : World) (t : TypeId) : ABox w.heap.size a (w.alloc (.cells (aca a) t)) := by
  refine ⟨?_, ?_, ?_, ?_, ?_⟩ <;> (rw [cell_of_row _ w.heap.size _ _ t (0, 0) (heap_alloc_new w _)]; rfl)
theorem ABox.lt {b : Nat} {a : Att} {w : World} (h : ABox b a w) : b < w.heap.size := World.block_lt_of_cell? w _ h.1

/-- A slice of attributes that reads as xs. -/
@[reducible] def Arow (w : World) (v : Value) (xs : List Att) : Prop := Row attC w v xs
theorem Arow.opn {w : World} {a : Option Addr} {n cap : Nat} {xs : List Att} (h : Arow w (.slice a n cap) xs) (h0 : 0 < xs.length) :
    ∃ b off, a = some ⟨b, off, none⟩ ∧ n = xs.length ∧ xs.length ≤ cap ∧ cap ≤ maxLen ∧ b < w.heap.size ∧ (∀ j (hj : j < xs.length), AAt b (off + j * 5) xs[j] w) := by
  obtain ⟨b, off, ha, hn, hc, hm, hb, hat, -⟩ := Row.opened h h0
  refine ⟨b, off, ha, hn, hc, hm, hb, fun j hj => ⟨?_, ?_, ?_, ?_, ?_⟩⟩
  · exact hat j hj 0 _ rfl
  · exact hat j hj 1 _ rfl
  · exact hat j hj 2 _ rfl
  · exact hat j hj 3 _ rfl
  · exact hat j hj 4 _ rfl

/-- The elements' type, as the program lays it. -/
theorem info_att : Try.prog.info? 77 = Try.prog.info? 77 := rfl

def aeq (a b : Att) : Bool := (a.key == b.key) && ((a.k == b.k) && (a.n == b.n) && (a.f == b.f) && (a.s.toList == b.s.toList))
theorem aeq_iff (a b : Att) : aeq a b = true ↔ a = b := by
  obtain ⟨a1, a2, a3, a4, a5⟩ := a
  obtain ⟨b1, b2, b3, b4, b5⟩ := b
  have hs : a5.toList = b5.toList ↔ a5 = b5 := by
    rw [ByteArray.toList_eq, ByteArray.toList_eq]
    exact ⟨fun h => Go.WideShapes.bytes_inj h, fun h => by rw [h]⟩
  simp [aeq, hs, and_assoc]
theorem aeq_dec (a b : Att) : aeq a b = decide (a = b) := by
  rw [Bool.eq_iff_iff, aeq_iff]; simp

set_option maxRecDepth 100000 in
theorem att_in (a b : Att) (w : World) : (Op.equalIn 10000 77 (av a) (av b)).run Try.prog w = .ok (aeq a b) w := by
  obtain ⟨a1, a2, a3, a4, a5⟩ := a
  obtain ⟨b1, b2, b3, b4, b5⟩ := b
  have hS : Try.prog.underlying 77 = some (.struct (Try.prog.fieldsOf 77)) := by kernel_rfl
  have hp : Try.prog.stoodInHeld 77 = false := by kernel_rfl
  have u0 := Try.underlying3
  have ag0 := Try.isAgg3
  have ag5 := Try.isAgg48
  have z0 := Try.sizeOf3
  have z5 := Try.sizeOf48
  rw [show (10000 : Nat) = 9999 + 1 from rfl, run_equalIn_agg w 9999 77 _ _ hS hp]
  simp only [Program.fieldsOf, Try.underlying77]
  simp only [Op.eqFields, ne_eq]
  go_simp
  unfold aeq
  by_cases h1 : a1 = b1 <;> by_cases h2 : a2 = b2 <;> by_cases h3 : a3 = b3 <;> by_cases h4 : a4 = b4 <;> by_cases h5 : a5.toList = b5.toList <;> simp [h1, h2, h3, h4, h5]
theorem att_eql (a b : Att) (w : World) : (binOp .eql 77 (av a) (av b)).run Try.prog w = .ok (.bool (aeq a b)) w := by
  rw [run_eql_struct, att_in]; rfl
theorem att_neq (a b : Att) (w : World) : (binOp .neq 77 (av a) (av b)).run Try.prog w = .ok (.bool (!aeq a b)) w := by
  rw [run_neq_struct, att_in]; rfl
end Go.Proofs.Yteodfbkfpboehaa

/- A18: attributes, and slices of them, that came in -/
namespace Go.Proofs.Yteodfbkfpboehaa
open Go.RowKit Go.ChangeShapes Go.WideShapes Go.Deep
set_option linter.unusedVariables false

section
variable {H : Type} {enc : TypeId × Value → H} {w : World} {base : Nat} {spare : Nat → Bool} {held : Bool}

theorem att_fields : Try.prog.underlying 77 = some (.struct (Try.prog.fieldsOf 77)) := by kernel_rfl
theorem att_cells : Try.prog.cellsOf 77 = 5 := by kernel_rfl
theorem att_types : (Try.prog.fieldsOf 77).map (fun f => (f.type, f.offset)) = #[(3, 0), (48, 1)] := by kernel_rfl
theorem att_size : (Try.prog.fieldsOf 77).size = 2 := by kernel_rfl
theorem int_cells5 : Try.prog.cellsOf 3 = 1 := by kernel_rfl
theorem value_cells5 : Try.prog.cellsOf 48 = 4 := by kernel_rfl
theorem value_fields5 : Try.prog.underlying 48 = some (.struct (Try.prog.fieldsOf 48)) := by kernel_rfl
theorem value_one5 : oneCellFields Try.prog (Try.prog.fieldsOf 48) = true := by kernel_rfl
theorem value_types5 : (Try.prog.fieldsOf 48).map (·.type) = #[5, 2, 46, 9] := by kernel_rfl
theorem value_size5 : (Try.prog.fieldsOf 48).size = 4 := by kernel_rfl

set_option maxRecDepth 100000 in
/-- A value's four cells, from what was read of it. -/
theorem open_val5 {n : Nat} {cs : List Value} {y : DataW H × List MemPlace} (h : DataW.trod enc Try.prog w base spare held n 48 cs = some y) :
    ∃ (k n' f : Int) (s : ByteArray), (Lit.int .u8 k).wf = true ∧ (Lit.int .i64 n').wf = true ∧ (Lit.int .u64 f).wf = true ∧ s.size ≤ maxLen ∧ cs = [.int .u8 k, .int .i64 n', .int .u64 f, .string s] := by
  obtain ⟨ys, m, -, -, hlen, hys, hf⟩ := DataW.trod_struct value_fields5 h
  rw [value_cells5] at hlen
  rw [value_size5] at hys
  have hj : ∀ (j : Nat) (t : TypeId), (#[5, 2, 46, 9] : Array TypeId)[j]? = some t → DataW.trod enc Try.prog w base spare held m t ((cs.drop j).take 1) = ys[j]? := by
    intro j t hjt
    rw [← value_types5, Array.getElem?_map, Option.map_eq_some_iff] at hjt
    obtain ⟨f, hfj, rfl⟩ := hjt
    obtain ⟨ho, hk⟩ := hone_of value_one5 j f hfj
    have := hf j f hfj
    rwa [ho, hk] at this
  clear hf h
  match cs, hlen with
  | [c0, c1, c2, c3], _ =>
    match ys, hys with
    | [y0, y1, y2, y3], _ =>
      have h0 : DataW.trod enc Try.prog w base spare held m 5 [c0] = some y0 := hj 0 _ rfl
      have h1 : DataW.trod enc Try.prog w base spare held m 2 [c1] = some y1 := hj 1 _ rfl
      have h2 : DataW.trod enc Try.prog w base spare held m 46 [c2] = some y2 := hj 2 _ rfl
      have h3 : DataW.trod enc Try.prog w base spare held m 9 [c3] = some y3 := hj 3 _ rfl
      obtain ⟨a0, e0, -, w0⟩ := DataW.trod_int Try.underlying5 h0
      obtain ⟨a1, e1, -, w1⟩ := DataW.trod_int Try.underlying2 h1
      obtain ⟨a2, e2, -, w2⟩ := DataW.trod_int Try.underlying46 h2
      obtain ⟨a3, e3, -, w3⟩ := DataW.trod_string Try.underlying9 h3
      simp only [List.cons.injEq, and_true] at e0 e1 e2 e3
      subst e0 e1 e2 e3
      exact ⟨a0, a1, a2, a3, w0, w1, w2, w3, rfl⟩

set_option maxRecDepth 100000 in
/-- An attribute's five cells, from what was read of it. -/
theorem open_att {n : Nat} {cs : List Value} {y : DataW H × List MemPlace} (h : DataW.trod enc Try.prog w base spare held n 77 cs = some y) : ∃ a : Att, AttW a ∧ cs = ac a := by
  obtain ⟨ys, m, -, -, hlen, hys, hf⟩ := DataW.trod_struct att_fields h
  rw [att_cells] at hlen
  rw [att_size] at hys
  have hj : ∀ (j : Nat) (t : TypeId) (o : Nat), (#[(3, 0), (48, 1)] : Array (TypeId × Nat))[j]? = some (t, o) → DataW.trod enc Try.prog w base spare held m t ((cs.drop o).take (Try.prog.cellsOf t)) = ys[j]? := by
    intro j t o hjt
    rw [← att_types, Array.getElem?_map, Option.map_eq_some_iff] at hjt
    obtain ⟨f, hfj, e⟩ := hjt
    simp only [Prod.mk.injEq] at e
    obtain ⟨rfl, rfl⟩ := e
    exact hf j f hfj
  clear hf h
  match cs, hlen with
  | [c0, c1, c2, c3, c4], _ =>
    match ys, hys with
    | [y0, y1], _ =>
      have h0 := hj 0 3 0 rfl
      have h1 := hj 1 48 1 rfl
      rw [int_cells5] at h0
      rw [value_cells5] at h1
      have h0' : DataW.trod enc Try.prog w base spare held m 3 [c0] = some y0 := h0
      have h1' : DataW.trod enc Try.prog w base spare held m 48 [c1, c2, c3, c4] = some y1 := h1
      obtain ⟨a0, e0, -, w0⟩ := DataW.trod_int Try.underlying3 h0'
      obtain ⟨k, n', f, s, w1, w2, w3, w4, e1⟩ := open_val5 h1'
      simp only [List.cons.injEq, and_true] at e0 e1
      obtain ⟨rfl, rfl, rfl, rfl⟩ := e1
      subst e0
      exact ⟨⟨a0, k, n', f, s⟩, ⟨w0, w1, w2, w3, w4⟩, rfl⟩

set_option maxRecDepth 100000 in
/-- A slice of attributes that came in. -/
theorem open_atts {n : Nat} {v : Value} {x : DataW H × List MemPlace} (h : DataW.trod enc Try.prog w base spare held n 33 [v] = some x) : ∃ xs, Arow w v xs ∧ ∀ a ∈ xs, AttW a := by
  rcases open_slice Try.underlying33 h with ⟨hcs, -⟩ | ⟨a, len, cap, m, n', D, Pl, hcs, -, hl, hm, hmm, -, hi⟩
  · injection hcs with hv _
    subst hv
    exact ⟨[], Row.nil w, by simp⟩
  · injection hcs with hv _
    subst hv
    have hlm : len ≤ m := by rw [hmm]; split <;> omega
    have hex : ∀ i, i < len → ∃ k : Att, AttW k ∧ ∀ j u, (ac k)[j]? = some u → w.cell? (a.add (i * 5 + j)) = some u := by
      intro i hil
      obtain ⟨cs', hc, ht⟩ := hi i (by omega)
      obtain ⟨k, hw, rfl⟩ := open_att ht
      rw [att_cells] at hc
      obtain ⟨-, hcl, hat⟩ := World.cells?_some hc
      refine ⟨k, hw, fun j u hu => ?_⟩
      have hj : j < 5 := by have := (List.getElem?_eq_some_iff.1 hu).1; simpa using this
      have := hat j hj
      rw [hu, add_add] at this
      exact this
    have hex2 : ∀ i : Fin len, ∃ k : Att, AttW k ∧ ∀ j u, (ac k)[j]? = some u → w.cell? (a.add (i.1 * 5 + j)) = some u := fun i => hex i.1 i.2
    obtain ⟨f, hf⟩ := Classical.axiomOfChoice hex2
    have hlen : (List.ofFn f).length = len := by simp
    refine ⟨List.ofFn f, ?_, fun k hk => ?_⟩
    · by_cases h0 : len = 0
      · subst h0
        exact .inl ⟨some a, cap, rfl, by simp, hm, by simp⟩
      · obtain ⟨b, off, spot⟩ := a
        have hspot : spot = none := by
          have := (hf ⟨0, by omega⟩).2 0 _ rfl
          simpa [Addr.add] using World.cell?_spot this
        subst hspot
        refine .inr ⟨b, off, cap, by rw [hlen], by omega, by omega, hm, fun j u hu => ?_⟩
        have hjl : j < len * 5 := by
          have := (List.getElem?_eq_some_iff.1 hu).1
          rwa [fl_len, hlen] at this
        have e1 : j / 5 * 5 + j % 5 = j := by omega
        have hd : j / 5 < len := by omega
        have g := fl_get attC (List.ofFn f) (j / 5) (j % 5) (by omega) (by show j % 5 < 5; omega)
        rw [show j / 5 * attC.m + j % 5 = j from e1, hu] at g
        have := (hf ⟨j / 5, hd⟩).2 (j % 5) u (by rw [g]; simp [attC])
        rw [e1, Go.WideShapes.add_plain] at this
        exact this
    · obtain ⟨i, rfl⟩ := List.mem_ofFn.1 hk
      exact (hf i).1

end
end Go.Proofs.Yteodfbkfpboehaa

/- A3: sets held against one another; great; rising -/
namespace Go.Proofs.Yteodfbkfpboehaa
open Go.RowKit
set_option linter.unusedVariables false

theorem atake_snoc {xs : List Att} {k : Nat} (h : k < xs.length) : xs.take (k + 1) = xs.take k ++ [xs[k]] := by
  rw [List.take_succ_eq_append_getElem h]
theorem eq_step {xs ys : List Att} {k : Nat} (h1 : k < xs.length) (h2 : k < ys.length) (h : xs.take k = ys.take k) (he : xs[k] = ys[k]) : xs.take (k + 1) = ys.take (k + 1) := by
  rw [atake_snoc h1, atake_snoc h2, h, he]
theorem eq_end {xs ys : List Att} (hl : xs.length = ys.length) (h : xs.take xs.length = ys.take xs.length) : xs = ys := by
  rw [List.take_of_length_le (Nat.le_refl _), hl, List.take_of_length_le (Nat.le_refl _)] at h; exact h
theorem eq_bad {xs ys : List Att} {k : Nat} (h1 : k < xs.length) (h2 : k < ys.length) (he : ¬ xs[k] = ys[k]) : ¬ xs = ys := by
  intro h; subst h; exact he rfl
theorem dec_yes {p : Prop} [Decidable p] (h : p) : Ending.returned (.bool true) = .returned (.bool (decide p)) := by rw [decide_eq_true h]
theorem dec_no {p : Prop} [Decidable p] (h : ¬ p) : Ending.returned (.bool false) = .returned (.bool (decide p)) := by rw [decide_eq_false h]

set_option maxRecDepth 100000 in
theorem equal_any (v1 v2 : Value) (xs ys : List Att) (w : World) (h1 : Arow w v1 xs) (h2 : Arow w v2 ys) :
    Calls Try.prog 72 #[v1, v2] w fun e w' => e = .returned (.bool (decide (xs = ys))) ∧ ∃ q, w' = w.drewN q := by
  have hl1 := h1.len
  have hl2 := h2.len
  obtain ⟨a1, cap1, rfl⟩ := h1.shape
  obtain ⟨a2, cap2, rfl⟩ := h2.shape
  by_cases hl : xs.length = ys.length
  · by_cases h0 : 0 < xs.length
    · obtain ⟨b1, o1, rfl, -, -, -, -, hat1⟩ := Arow.opn h1 h0
      obtain ⟨b2, o2, rfl, -, -, -, -, hat2⟩ := Arow.opn h2 (by omega)
      clear h1 h2
      have H1 := Lib.hid hat1
      have H2 := Lib.hid hat2
      have HL := Lib.hid hl
      clear hat1 hat2
      rw [← hl]
      clear hl hl2
      go_enter Try.func72, Try.ntmps72
      go_wp2
      go_loopw [13] (fun i wr => ∃ k q : Nat, k ≤ xs.length ∧ i = .int .i64 k ∧ wr = w.drewN q ∧ Hid (xs.take k = ys.take k)) (fun i _ => xs.length - (intOf i).toNat)
      case atStart => exact ⟨0, 0, Nat.zero_le _, rfl, rfl, Lib.hid rfl⟩
      case round =>
        obtain ⟨k, q, hk, rfl, rfl, HP⟩ := hrel
        by_cases hlt : k < xs.length
        · have hlt2 : k < ys.length := by rw [← HL.out]; exact hlt
          obtain ⟨c0, c1, c2, c3, c4⟩ := H1.out k hlt
          obtain ⟨d0, d1, d2, d3, d4⟩ := H2.out k hlt2
          have hS := fun h => eq_step hlt hlt2 HP.out h
          have hE := fun h => eq_bad hlt hlt2 h
          have hD : aeq xs[k] ys[k] = decide (xs[k] = ys[k]) := aeq_dec _ _
          have hq := fun w => att_neq xs[k] ys[k] w
          generalize xs[k] = x at *
          generalize ys[k] = y at *
          by_cases hxy : x = y
          · have HS := Lib.hid (hS hxy)
            have e1 : aeq x y = true := by rw [hD]; simp [hxy]
            rw [e1] at hq
            obtain ⟨x1, x2, x3, x4, x5⟩ := x
            obtain ⟨y1, y2, y3, y4, y5⟩ := y
            clear hS hE hD e1 hxy
            simp only at c0 c1 c2 c3 c4 d0 d1 d2 d3 d4 hq
            go_wp2
            go_quiet (fail)
            go_wp2
            go_roundw
            case rel => exact ⟨k + 1, q + nq, by omega, by go_num, by simp, HS⟩
            case measure => simp [intOf]; omega
          · have HS := Lib.hid (hE hxy)
            have e1 : aeq x y = false := by rw [hD]; simp [hxy]
            rw [e1] at hq
            obtain ⟨x1, x2, x3, x4, x5⟩ := x
            obtain ⟨y1, y2, y3, y4, y5⟩ := y
            clear hS hE hD e1 hxy
            simp only at c0 c1 c2 c3 c4 d0 d1 d2 d3 d4 hq
            go_wp2
            go_quiet (fail)
            go_wp2
            go_ret
            exact ⟨dec_no HS.out, q + nq, by simp⟩
        · obtain rfl : k = xs.length := by omega
          have HE := Lib.hid (eq_end HL.out HP.out)
          clear HP
          go_wp2
          go_ret
          exact ⟨dec_yes HE.out, _, rfl⟩
    · obtain rfl : xs = [] := List.eq_nil_of_length_eq_zero (by omega)
      obtain rfl : ys = [] := List.eq_nil_of_length_eq_zero (by simpa using hl.symm)
      clear h1 h2 h0 hl hl1 hl2
      go_enter Try.func72, Try.ntmps72
      go_wp2
      refine wp_loop_rounds 1 ?_
      rw [rounds_succ]
      go_wp2
      go_ret
      exact ⟨rfl, 0, rfl⟩
  · have HN := Lib.hid (show ¬ xs = ys from fun h => hl (by rw [h]))
    have e1 : ((xs.length : Int) != (ys.length : Int)) = true := by simp; omega
    clear h1 h2
    go_enter Try.func72, Try.ntmps72
    go_wp2
    go_ret
    exact ⟨dec_no HN.out, 0, rfl⟩

theorem same_any5 (v1 v2 : Value) (xs ys : List Att) (w : World) (h1 : Arow w v1 xs) (h2 : Arow w v2 ys) :
    Calls Try.prog 47 #[v1, v2] w fun e w' => e = .returned (.bool (decide (xs = ys))) ∧ Below w.heap.size w w' := by
  have HE := Lib.hid (equal_any v1 v2 xs ys w h1 h2)
  clear h1 h2
  go_enter Try.func47, Try.ntmps47
  go_wp2_with (go_at_call 72; ((with_reducible refine HE.out.mono ?_); rintro e w1 ⟨rfl, q, rfl⟩))
  go_ret
  exact ⟨rfl, blw_drewN (Below.refl _ _) q⟩
end Go.Proofs.Yteodfbkfpboehaa

/- S1: keys as plain data -/
namespace Go.Proofs.Yteodfbkfpboehaa
open Go.RowKit
set_option linter.unusedVariables false

/-- A key of attributes. -/
structure Key where
  id : Int
  blk : Bool
  kind : Int
  aft : Bool
  bef : Bool
  grp : Int

@[reducible] def kc (k : Key) : List Value := [.int .i64 k.id, .bool k.blk, .int .u8 k.kind, .bool k.aft, .bool k.bef, .int .i64 k.grp]
/-- The first key with that number. -/
def fnd (ks : List Key) (id : Int) : Option Key := ks.find? (fun k => k.id == id)
/-! ### by rising numbers -/
def risingTo (ks : List Key) (n : Nat) : List Key := (List.range n).filterMap fun i : Nat => fnd ks ((i : Int) + 1)
def rising (ks : List Key) : List Key := risingTo ks 1000
end Go.Proofs.Yteodfbkfpboehaa

/- S2: the map -/
namespace Go.Proofs.Yteodfbkfpboehaa
open Go.RowKit
set_option linter.unusedVariables false

end Go.Proofs.Yteodfbkfpboehaa

/- A4: the reference's Same, great, Rising -/
namespace Go.Proofs.Yteodfbkfpboehaa
open Go.RowKit
set_option linter.unusedVariables false

set_option maxRecDepth 100000 in
theorem rsame_any5 (v1 v2 : Value) (xs ys : List Att) (w : World) (h1 : Arow w v1 xs) (h2 : Arow w v2 ys) :
    Calls Try.prog 18 #[v1, v2] w fun e w' => e = .returned (.bool (decide (xs = ys))) ∧ ∃ q, w' = w.drewN q := by
  have hl1 := h1.len
  have hl2 := h2.len
  obtain ⟨a1, cap1, rfl⟩ := h1.shape
  obtain ⟨a2, cap2, rfl⟩ := h2.shape
  by_cases hl : xs.length = ys.length
  · by_cases h0 : 0 < xs.length
    · obtain ⟨b1, o1, rfl, -, -, -, -, hat1⟩ := Arow.opn h1 h0
      obtain ⟨b2, o2, rfl, -, -, -, -, hat2⟩ := Arow.opn h2 (by omega)
      clear h1 h2
      have H1 := Lib.hid hat1
      have H2 := Lib.hid hat2
      have HL := Lib.hid hl
      clear hat1 hat2
      rw [← hl]
      clear hl hl2
      go_enter Try.func18, Try.ntmps18
      go_wp2
      go_loopw [5] (fun i wr => ∃ k q : Nat, k ≤ xs.length ∧ i = .int .i64 k ∧ wr = w.drewN q ∧ Hid (xs.take k = ys.take k)) (fun i _ => xs.length - (intOf i).toNat)
      case atStart => exact ⟨0, 0, Nat.zero_le _, rfl, rfl, Lib.hid rfl⟩
      case round =>
        obtain ⟨k, q, hk, rfl, rfl, HP⟩ := hrel
        by_cases hlt : k < xs.length
        · have hlt2 : k < ys.length := by rw [← HL.out]; exact hlt
          obtain ⟨c0, c1, c2, c3, c4⟩ := H1.out k hlt
          obtain ⟨d0, d1, d2, d3, d4⟩ := H2.out k hlt2
          have hS := fun h => eq_step hlt hlt2 HP.out h
          have hE := fun h => eq_bad hlt hlt2 h
          have hD : aeq xs[k] ys[k] = decide (xs[k] = ys[k]) := aeq_dec _ _
          have hq := fun w => att_neq xs[k] ys[k] w
          generalize xs[k] = x at *
          generalize ys[k] = y at *
          by_cases hxy : x = y
          · have HS := Lib.hid (hS hxy)
            have e1 : aeq x y = true := by rw [hD]; simp [hxy]
            rw [e1] at hq
            obtain ⟨x1, x2, x3, x4, x5⟩ := x
            obtain ⟨y1, y2, y3, y4, y5⟩ := y
            clear hS hE hD e1 hxy
            simp only at c0 c1 c2 c3 c4 d0 d1 d2 d3 d4 hq
            go_wp2
            go_quiet (fail)
            go_wp2
            go_roundw
            case rel => exact ⟨k + 1, q + nq, by omega, by go_num, by simp, HS⟩
            case measure => simp [intOf]; omega
          · have HS := Lib.hid (hE hxy)
            have e1 : aeq x y = false := by rw [hD]; simp [hxy]
            rw [e1] at hq
            obtain ⟨x1, x2, x3, x4, x5⟩ := x
            obtain ⟨y1, y2, y3, y4, y5⟩ := y
            clear hS hE hD e1 hxy
            simp only at c0 c1 c2 c3 c4 d0 d1 d2 d3 d4 hq
            go_wp2
            go_quiet (fail)
            go_wp2
            go_ret
            exact ⟨dec_no HS.out, q + nq, by simp⟩
        · obtain rfl : k = xs.length := by omega
          have HE := Lib.hid (eq_end HL.out HP.out)
          clear HP
          go_wp2
          go_ret
          exact ⟨dec_yes HE.out, _, rfl⟩
    · obtain rfl : xs = [] := List.eq_nil_of_length_eq_zero (by omega)
      obtain rfl : ys = [] := List.eq_nil_of_length_eq_zero (by simpa using hl.symm)
      clear h1 h2 h0 hl hl1 hl2
      go_enter Try.func18, Try.ntmps18
      go_wp2
      refine wp_loop_rounds 1 ?_
      rw [rounds_succ]
      go_wp2
      go_ret
      exact ⟨rfl, 0, rfl⟩
  · have HN := Lib.hid (show ¬ xs = ys from fun h => hl (by rw [h]))
    have e1 : ((xs.length : Int) != (ys.length : Int)) = true := by simp; omega
    clear h1 h2
    go_enter Try.func18, Try.ntmps18
    go_wp2
    go_ret
    exact ⟨dec_no HN.out, 0, rfl⟩


/-- Keys rise. -/
def Rise (xs : List Att) : Prop := xs.Pairwise (fun a b => a.key < b.key)
instance (xs : List Att) : Decidable (Rise xs) := by unfold Rise; infer_instance
theorem rise_nil : Rise [] := List.Pairwise.nil
theorem rise_step {xs : List Att} {k : Nat} (h : k + 1 < xs.length) (hr : Rise (xs.take (k + 1))) (hl : xs[k].key < xs[k + 1].key) : Rise (xs.take (k + 1 + 1)) := by
  rw [atake_snoc h]
  refine List.pairwise_append.2 ⟨hr, by simp, fun a ha b hb => ?_⟩
  simp at hb
  subst hb
  rw [atake_snoc (by omega : k < xs.length)] at ha hr
  rcases List.mem_append.1 ha with ha | ha
  · have := (List.pairwise_append.1 hr).2.2 a ha xs[k] (by simp)
    omega
  · simp at ha; subst ha; exact hl
theorem rise_bad {xs : List Att} {k : Nat} (h : k + 1 < xs.length) (hl : ¬ xs[k].key < xs[k + 1].key) : ¬ Rise xs := fun hr =>
  hl (List.pairwise_iff_getElem.1 hr k (k + 1) (by omega) h (by omega))
theorem rise_end {xs : List Att} (hr : Rise (xs.take xs.length)) : Rise xs := by rwa [List.take_of_length_le (Nat.le_refl _)] at hr
theorem rise_one {xs : List Att} : Rise (xs.take (0 + 1)) := by
  cases xs with
  | nil => exact rise_nil
  | cons x r => simp [Rise]

set_option maxRecDepth 100000 in
theorem rising_any5 (v : Value) (xs : List Att) (w : World) (h1 : Arow w v xs) :
    Calls Try.prog 21 #[v] w fun e w' => e = .returned (.bool (decide (Rise xs))) ∧ ∃ q, w' = w.drewN q := by
  have hl1 := h1.len
  obtain ⟨a1, cap1, rfl⟩ := h1.shape
  by_cases h0 : 0 < xs.length
  · obtain ⟨b1, o1, rfl, -, -, -, -, hat1⟩ := Arow.opn h1 h0
    clear h1
    have H1 := Lib.hid hat1
    clear hat1
    go_enter Try.func21, Try.ntmps21
    go_wp2
    go_loopw [3] (fun i wr => ∃ k q : Nat, k + 1 ≤ xs.length ∧ i = .int .i64 ((k : Int) + 1) ∧ wr = w.drewN q ∧ Hid (Rise (xs.take (k + 1)))) (fun i _ => xs.length - (intOf i).toNat)
    case atStart => exact ⟨0, 0, h0, rfl, rfl, Lib.hid rise_one⟩
    case round =>
      obtain ⟨k, q, hk, rfl, rfl, HP⟩ := hrel
      by_cases hlt : k + 1 < xs.length
      · obtain ⟨c0, -, -, -, -⟩ := H1.out k (by omega)
        obtain ⟨d0, -, -, -, -⟩ := H1.out (k + 1) hlt
        have hS := fun h => rise_step hlt HP.out h
        have hB := fun h => rise_bad hlt h
        generalize xs[k].key = x at *
        generalize xs[k + 1].key = y at *
        by_cases hxy : x < y
        · have HS := Lib.hid (hS hxy)
          have e1 : decide (y ≤ x) = false := by rw [decide_eq_false_iff_not]; omega
          clear hS hB hxy
          go_wp2
          go_quiet (fail)
          go_wp2
          go_roundw
          case rel => exact ⟨k + 1, q + nq, by omega, by go_num, by simp, HS⟩
          case measure => simp [intOf]; omega
        · have HS := Lib.hid (hB hxy)
          have e1 : decide (y ≤ x) = true := by rw [decide_eq_true_iff]; omega
          clear hS hB hxy
          go_wp2
          go_quiet (fail)
          go_wp2
          go_ret
          exact ⟨dec_no HS.out, q + nq, by simp⟩
      · have hkk : xs.length = k + 1 := by omega
        have HE := Lib.hid (rise_end (by rw [hkk]; exact HP.out))
        clear HP
        go_wp2
        go_ret
        exact ⟨dec_yes HE.out, _, rfl⟩
  · obtain rfl : xs = [] := List.eq_nil_of_length_eq_zero (by omega)
    clear h1 h0 hl1
    go_enter Try.func21, Try.ntmps21
    go_wp2
    refine wp_loop_rounds 1 ?_
    rw [rounds_succ]
    go_wp2
    go_ret
    exact ⟨rfl, 0, rfl⟩
end Go.Proofs.Yteodfbkfpboehaa

/- A7: around, Get -/
namespace Go.Proofs.Yteodfbkfpboehaa
open Go.RowKit
set_option linter.unusedVariables false

def getA (xs : List Att) (key : Int) : Option Att := xs.find? fun a => a.key == key

end Go.Proofs.Yteodfbkfpboehaa

/- A8: Get; Grow, Concat, Clone -/
namespace Go.Proofs.Yteodfbkfpboehaa
open Go.RowKit
set_option linter.unusedVariables false

set_option maxRecDepth 100000 in
theorem info_att5 : ∃ i0, Try.prog.info? 77 = some i0 ∧ i0.zero = some (av noAtt) ∧ i0.size = 5 ∧ i0.bytes = 48 := by
  refine ⟨_, rfl, ?_, ?_, ?_⟩ <;> kernel_rfl

end Go.Proofs.Yteodfbkfpboehaa

/- A10: With, Without, Copy -/
namespace Go.Proofs.Yteodfbkfpboehaa
open Go.RowKit
set_option linter.unusedVariables false

/-- A set of the call's own that reads as ys. -/
def Own5 (w0 w : World) (u : Value) (ys : List Att) : Prop := w.ownsRow w0.heap.size 77 5 u ys.length (fl attC ys)
theorem Own5.row {w0 w : World} {u : Value} {ys : List Att} (h : Own5 w0 w u ys) : Arow w u ys := (Row.of_owns (C := attC) h).1

end Go.Proofs.Yteodfbkfpboehaa

/- A11: Clone, Copy -/
namespace Go.Proofs.Yteodfbkfpboehaa
open Go.RowKit
set_option linter.unusedVariables false

theorem own5_nil (w0 w : World) : Own5 w0 w (.slice none 0 0) [] := ⟨rfl, .inl ⟨rfl, rfl⟩⟩

theorem owns_none (w : World) (e : TypeId) (m : Nat) : (w.alloc (.cells #[] e)).ownsRow w.heap.size e m (.slice (some ⟨w.heap.size, 0, none⟩) 0 0) 0 [] :=
  ⟨by simp, .inr ⟨w.heap.size, 0, #[], rfl, Nat.le_refl _, heap_alloc_new w _, Nat.le_refl _, by simp, by simp, by simp⟩⟩
theorem row_new0 (w : World) (a : Att) (t : TypeId) : Arow (w.alloc (.cells (aca a) t)) (.slice (some ⟨w.heap.size, 0, none⟩) 1 1) [a] := Row.built (C := attC) w t [a] (by simp [maxLen])
theorem row_new1 (w : World) (o : Obj) (a : Att) (t : TypeId) : Arow ((w.alloc o).alloc (.cells (aca a) t)) (.slice (some ⟨w.heap.size + 1, 0, none⟩) 1 1) [a] := by
  have h := row_new0 (w.alloc o) a t
  simp only [World.size_alloc] at h
  exact h
theorem nil_eql (a : Option Addr) (l c : Nat) (w : World) : (binOp .eql 33 (.slice a l c) (.slice none 0 0)).run Try.prog w = .ok (.bool a.isNone) w := by
  simp only [binOp, Sem.run_bind, run_equal_slice_nil w 33 77 a l c Try.underlying33, Result.andThen_ok, Sem.run_pure]

set_option maxRecDepth 100000 in
theorem clone_any5 (v : Value) (xs : List Att) (w : World) (hv : Arow w v xs) (hl : xs.length ≤ 100000) :
    Calls Try.prog 39 #[v] w fun e w' => ∃ u, e = .returned u ∧ Own5 w w' u xs ∧ Below w.heap.size w w' := by
  obtain ⟨i0, hi, hz0, hz1, hz2⟩ := info_att5
  have HV := Lib.hid hv
  have hnil := fun a l c w => nil_eql a l c w
  obtain ⟨a, cap, rfl⟩ := hv.shape
  cases a with
  | none =>
    obtain ⟨rfl, rfl⟩ : xs = [] ∧ cap = 0 := by
      rcases hv with ⟨_, _, h, hx, _, h0⟩ | ⟨_, _, _, h, _⟩
      · injection h with h1 _ h3; subst hx; exact ⟨rfl, by rw [h3]; exact h0 h1.symm⟩
      · injection h with h1; cases h1
    clear hv HV
    go_enter Try.func39, Try.ntmps39
    go_wp2
    go_ret
    exact ⟨_, rfl, own5_nil _ _, Below.refl _ _⟩
  | some a =>
    clear hv
    have hB := (Below.refl w.heap.size w).alloc (Nat.le_refl _) (.cells #[] 77)
    go_enter Try.func39, Try.ntmps39
    go_wp2_with (at_builtin; refine wpList_append_row (C := attC) rfl (.tmp 5) (.tmp 6) 33 rfl w.heap.size 77 i0 (av noAtt) 48 Try.underlying33 hi hz0 hz1 hz2 rfl _ 0 [] rfl (owns_none w 77 5) _ xs rfl (HV.out.below hB (Nat.le_refl _)) (by unfold maxLen; omega) (by omega) (by simp) ?_; intro v3 w3 hown3 hgrow3)
    go_ret
    refine ⟨_, rfl, ?_, hB.grown hgrow3 (by simp) (fun j hj => own_base (owns_none w 77 5) hj)⟩
    have h : w3.ownsRow w.heap.size 77 attC.m v3 (0 + xs.length) ([] ++ fl attC xs) := hown3
    rw [Nat.zero_add, List.nil_append] at h
    exact h

/-- Copy: the same, in memory of the call's own. -/
theorem copy_any5 (v : Value) (xs : List Att) (w : World) (hv : Arow w v xs) (hl : xs.length ≤ 100000) :
    Calls Try.prog 26 #[v] w fun e w' => ∃ u, e = .returned u ∧ Own5 w w' u xs ∧ Below w.heap.size w w' := by
  have HC := Lib.hid (clone_any5 v xs w hv hl)
  clear hv
  go_enter Try.func26, Try.ntmps26
  go_wp2_with (go_at_call 39; refine HC.out.mono ?_; rintro e w1 ⟨u, rfl, HR⟩)
  go_ret
  exact ⟨u, rfl, HR⟩
end Go.Proofs.Yteodfbkfpboehaa

/- I5 -/
/- I5: a table as plain data -/
namespace Go.Proofs.Yteodfbkfpboehaa
open Go.RowKit
set_option linter.unusedVariables false

/-- A place of the table: its set, and how often it is held. -/
structure Ent where
  set : List Att
  n : Nat
@[reducible] def noEnt : Ent := ⟨[], 0⟩
/-- A table: its schema's keys, its places by ids, the ids that are free, the one freed last at the end. -/
structure TabS where
  ks : List Key
  es : List Ent
  free : List Nat

def TabS.set (T : TabS) (i : Nat) : List Att := (T.es.getD i noEnt).set
def TabS.times (T : TabS) (i : Nat) : Nat := (T.es.getD i noEnt).n
def TabS.live (T : TabS) (i : Nat) : Prop := i = 0 ∨ (i < T.es.length ∧ 0 < T.times i)
instance (T : TabS) (i : Nat) : Decidable (T.live i) := inferInstanceAs (Decidable (i = 0 ∨ (i < T.es.length ∧ 0 < T.times i)))
def TabS.look (T : TabS) (x : List Att) : Option Nat := (List.range T.es.length).find? fun i => decide (T.live i ∧ T.set i = x)
def TabS.upd (T : TabS) (i : Nat) (e : Ent) : TabS := ⟨T.ks, T.es.set i e, T.free⟩
def TabS.bump (T : TabS) (i : Nat) : TabS := T.upd i ⟨T.set i, T.times i + 1⟩
def TabS.ins (T : TabS) (x : List Att) : TabS := match T.free.getLast? with
  | some i => ⟨T.ks, T.es.set i ⟨x, 1⟩, T.free.dropLast⟩
  | none => ⟨T.ks, T.es ++ [⟨x, 1⟩], T.free⟩
def TabS.add (T : TabS) (x : List Att) : TabS := match T.look x with
  | some i => T.bump i
  | none => T.ins x
def TabS.len (T : TabS) : Nat := T.es.length - T.free.length
/-! ### places -/
/-- Nothing is greater than the number of calls. -/
structure TabS.Le (T : TabS) (n : Nat) : Prop where
  es : T.es.length ≤ n + 1
  free : T.free.length ≤ n
  times : ∀ i, T.times i ≤ n
theorem TabS.Le.mono {T : TabS} {n m : Nat} (h : T.Le n) (hm : n ≤ m) : T.Le m := ⟨by have := h.es; omega, by have := h.free; omega, fun i => Nat.le_trans (h.times i) hm⟩

/-! ### a set that comes -/
/-! ### a set that goes -/
def TabS.out (T : TabS) (i : Nat) : TabS := ⟨T.ks, T.es.set i noEnt, T.free ++ [i]⟩
/-! ### what the map of texts says -/
end Go.Proofs.Yteodfbkfpboehaa

/- I6 -/
/- I6: a table in memory -/
namespace Go.Proofs.Yteodfbkfpboehaa
open Go.RowKit
set_option linter.unusedVariables false

/-- A place as it lies: its set's slice, and how often it is held. -/
structure HV where
  a : Option Addr
  l : Nat
  c : Nat
  n : Nat
@[reducible] def HV.v (x : HV) : Value := .slice x.a x.l x.c
section
variable {B : Nat} {S : Nat → Prop} {tb st mb : Nat} {m : Option Nat} {sv fv : Value} {hs : List HV} {D : DataW Unit} {T : TabS} {n : Nat} {w : World}
end

end Go.Proofs.Yteodfbkfpboehaa

/- I7 -/
/- I7: has, find, Held, Len, Set, Hold -/
namespace Go.Proofs.Yteodfbkfpboehaa
open Go.RowKit
set_option linter.unusedVariables false

section
variable {B : Nat} {S : Nat → Prop} {tb st mb : Nat} {m : Option Nat} {sv fv : Value} {hs : List HV} {D : DataW Unit} {T : TabS} {n : Nat}

end
end Go.Proofs.Yteodfbkfpboehaa

/- I8 -/
/- I8: a place is turned; Hold -/
namespace Go.Proofs.Yteodfbkfpboehaa
open Go.RowKit
set_option linter.unusedVariables false

theorem far {w w' : World} {row : Option Nat} (hg : w.grownBy w' row) {k : Nat} {o : Obj} (hk : w.heap[k]? = some o) (hr : ∀ g, row = some g → ∃ o', w.heap[g]? = some o' ∧ o' ≠ o) : w'.heap[k]? = some o := by
  rw [hg.block k (Array.getElem?_eq_some_iff.1 hk).1]
  · exact hk
  · intro e
    obtain ⟨o', h1, h2⟩ := hr k e.symm
    rw [hk] at h1
    exact h2 (Option.some.inj h1).symm
section
variable {B : Nat} {S : Nat → Prop} {tb st mb : Nat} {m : Option Nat} {sv fv : Value} {hs : List HV} {D : DataW Unit} {T : TabS} {n : Nat} {w : World}
end
end Go.Proofs.Yteodfbkfpboehaa

/- I9 -/
/- I9: what lies there, step by step -/
namespace Go.Proofs.Yteodfbkfpboehaa
open Go.RowKit
set_option linter.unusedVariables false

section
variable {B : Nat} {S : Nat → Prop} {tb st mb : Nat} {m : Option Nat} {sv fv : Value} {hs : List HV} {sets : Nat → List Att} {fr : List Nat} {ks : List Key} {k : Nat} {D : DataW Unit} {w : World}
end
end Go.Proofs.Yteodfbkfpboehaa

/- A13: the reference's Get, Without, Part -/
namespace Go.Proofs.Yteodfbkfpboehaa
open Go.RowKit
set_option linter.unusedVariables false

theorem getA_step {xs : List Att} {key : Int} {k : Nat} (h : k < xs.length) (hf : getA (xs.take k) key = none) (hne : ¬ xs[k].key = key) : getA (xs.take (k + 1)) key = none := by
  unfold getA at *
  rw [atake_snoc h, List.find?_append, hf]; simp [hne]
theorem getA_found {xs : List Att} {key : Int} {k : Nat} (h : k < xs.length) (hf : getA (xs.take k) key = none) (he : xs[k].key = key) : getA xs key = some xs[k] := by
  unfold getA at *
  conv => lhs; rw [← List.take_append_drop (k + 1) xs, atake_snoc h]
  rw [List.find?_append, List.find?_append, hf]; simp [he]
theorem getA_end {xs : List Att} {key : Int} (hf : getA (xs.take xs.length) key = none) : getA xs key = none := by rwa [List.take_of_length_le (Nat.le_refl _)] at hf
@[reducible] def getV (xs : List Att) (key : Int) : Value := .tuple #[vv ((getA xs key).getD noAtt), .bool (getA xs key).isSome]
theorem getV_some {xs : List Att} {key : Int} {a : Att} (h : getA xs key = some a) : getV xs key = .tuple #[vv a, .bool true] := by unfold getV; rw [h]; rfl
theorem getV_none {xs : List Att} {key : Int} (h : getA xs key = none) : getV xs key = .tuple #[vv noAtt, .bool false] := by unfold getV; rw [h]; rfl

set_option maxHeartbeats 400000 in
theorem rget_any5 (v : Value) (xs : List Att) (key : Int) (w : World) (hv : Arow w v xs) :
    Calls Try.prog 19 #[v, .int .i64 key] w fun e w' => e = .returned (getV xs key) ∧ Below w.heap.size w w' := by
  have hl := hv.len
  obtain ⟨a, cap, rfl⟩ := hv.shape
  by_cases h0 : 0 < xs.length
  · obtain ⟨b, off, rfl, -, -, -, hbl, hat⟩ := Arow.opn hv h0
    clear hv
    have hB := (Below.refl w.heap.size w).alloc (Nat.le_refl _) (.cells (vcells 0 0 0 ⟨#[]⟩) 48)
    have hat2 := Lib.hid (fun j (hj : j < xs.length) => (hat j hj).below hB hbl)
    clear hat
    go_enter Try.func19, Try.ntmps19
    go_wp2
    go_loop [6] (fun i => ∃ k : Nat, k ≤ xs.length ∧ i = .int .i64 k ∧ Hid (getA (xs.take k) key = none)) (fun i => xs.length - (intOf i).toNat)
    case atStart => exact ⟨0, Nat.zero_le _, rfl, Lib.hid rfl⟩
    case round =>
      obtain ⟨k, hk, rfl, HF⟩ := hrel
      by_cases hlt : k < xs.length
      · obtain ⟨c0, c1, c2, c3, c4⟩ := hat2.out k hlt
        have hS := fun h => getA_found hlt HF.out h
        have hN := fun h => getA_step hlt HF.out h
        generalize xs[k] = x at *
        obtain ⟨x1, x2, x3, x4, x5⟩ := x
        simp only at c0 c1 c2 c3 c4 hS hN
        by_cases he : x1 = key
        · have HS := Lib.hid (hS he)
          have e1 : (x1 == key) = true := by simpa using he
          clear he hS hN
          go_wp2
          exact bodyPost_ret (v := .tuple #[val x2 x3 x4 x5, .bool true]) (by simp [results, Try.results19, go_sem]) rfl ⟨by rw [getV_some HS.out], (Below.refl _ _).alloc (Nat.le_refl _) _⟩
        · have HN := Lib.hid (hN he)
          have e1 : (x1 == key) = false := by simpa using he
          clear he hS hN
          go_wp2
          go_round
          case rel => exact ⟨k + 1, by omega, by go_num, HN⟩
          case measure => simp [intOf]; omega
      · obtain rfl : k = xs.length := by omega
        have HN := Lib.hid (getA_end HF.out)
        go_wp2
        exact bodyPost_ret (v := .tuple #[vv noAtt, .bool false]) (by simp [results, Try.results19, go_sem]) rfl ⟨by rw [getV_none HN.out], (Below.refl _ _).alloc (Nat.le_refl _) _⟩
  · obtain rfl : xs = [] := List.eq_nil_of_length_eq_zero (by omega)
    clear hv hl h0
    have hB := (Below.refl w.heap.size w).alloc (Nat.le_refl _) (.cells (vcells 0 0 0 ⟨#[]⟩) 48)
    go_enter Try.func19, Try.ntmps19
    go_wp2
    refine wp_loop_rounds 1 ?_
    rw [rounds_succ]
    go_wp2
    exact bodyPost_ret (v := .tuple #[vv noAtt, .bool false]) (by simp [results, Try.results19, go_sem]) rfl ⟨by rw [getV_none rfl], (Below.refl _ _).alloc (Nat.le_refl _) _⟩

/-- A row that grows by one, or stays: what the loops of this layer keep. -/
def Grows (w : World) (ls : List Att) (v : Value) (wr : World) : Prop := Own5 w wr v ls ∧ Below w.heap.size w wr
theorem grows_stay {w wr w2 : World} {ls : List Att} {v : Value} (h : Grows w ls v wr) (hb : Below wr.heap.size wr w2) : Grows w ls v w2 := ⟨owns_below h.1 hb, below_add h.2 hb h.2.size⟩
theorem grows_more {w wr w2 w3 : World} {ls : List Att} {x : Att} {v v3 : Value} (h : Grows w ls v wr) (hb : Below wr.heap.size wr w2)
    (ho : w3.ownsRow w.heap.size 77 5 v3 (ls.length + 1) (fl attC ls ++ fl attC [x])) (hg : w2.grownBy w3 v.ownBlock) : Grows w (ls ++ [x]) v3 w3 := by
  obtain ⟨h1, h2⟩ := h
  refine ⟨?_, (below_add h2 hb h2.size).grown hg (below_add h2 hb h2.size).size (fun j hj => own_base h1 hj)⟩
  unfold Own5
  rw [fl_app, List.length_append]
  exact ho

end Go.Proofs.Yteodfbkfpboehaa

/- I16 -/
/- I16: Add, whatever the set -/
namespace Go.Proofs.Yteodfbkfpboehaa
open Go.RowKit
set_option linter.unusedVariables false

end Go.Proofs.Yteodfbkfpboehaa

/- I17 -/
/- I17: a table alone in what is made from B on; known -/
namespace Go.Proofs.Yteodfbkfpboehaa
open Go.RowKit
set_option linter.unusedVariables false

/-- A set of one flag. -/
@[reducible] def flagA (n : Int) : Att := ⟨1, 1, n, 0, ⟨#[]⟩⟩
end Go.Proofs.Yteodfbkfpboehaa

/- I18 -/
/- I18: known -/
namespace Go.Proofs.Yteodfbkfpboehaa
open Go.RowKit
set_option linter.unusedVariables false

@[reducible] def flagK : Key := ⟨1, false, 1, false, false, 0⟩
end Go.Proofs.Yteodfbkfpboehaa

/- I19 -/
/- I19: InternHolds -/
namespace Go.Proofs.Yteodfbkfpboehaa
open Go.RowKit
set_option linter.unusedVariables false

/-- The table with that set, held so often. -/
def hT (c : Int) (q : Nat) : TabS := ⟨[flagK], [noEnt, ⟨[flagA c], q⟩], []⟩
def hEnd : TabS := ⟨[flagK], [noEnt, noEnt], [1]⟩
/-- Where the second loop has come to. -/
def hS (c : Int) (m k : Nat) : TabS := if k = m + 1 then hEnd else hT c (m + 1 - k)
end Go.Proofs.Yteodfbkfpboehaa

/- I20 -/
/- I20: InternReuse -/
namespace Go.Proofs.Yteodfbkfpboehaa
open Go.RowKit
set_option linter.unusedVariables false

/-! ### the sets are all unlike, and may be -/
end Go.Proofs.Yteodfbkfpboehaa

/- I21 -/
/- I21: InternReuse's walk -/
namespace Go.Proofs.Yteodfbkfpboehaa
open Go.RowKit
set_option linter.unusedVariables false

end Go.Proofs.Yteodfbkfpboehaa

/- I22 -/
/- I22: rows of whatever came in; slices of slices -/
namespace Go.Proofs.Yteodfbkfpboehaa
open Go.RowKit Go.ChangeShapes Go.WideShapes Go.Deep
set_option linter.unusedVariables false

section
variable {H : Type} {enc : TypeId × Value → H} {w : World} {base : Nat} {spare : Nat → Bool} {held : Bool}
/-- A slice that came in, whatever its elements are. -/
theorem open_rowC {α : Type} (C : Cel α) (P : α → Prop) {t e : TypeId} (ht : Try.prog.underlying t = some (.slice e)) (hce : Try.prog.cellsOf e = C.m)
    (hel : ∀ (n : Nat) (cs : List Value) (y : DataW H × List MemPlace), DataW.trod enc Try.prog w base spare held n e cs = some y → ∃ x, P x ∧ cs = C.c x)
    {n : Nat} {v : Value} {x : DataW H × List MemPlace} (h : DataW.trod enc Try.prog w base spare held n t [v] = some x) : ∃ xs, Row C w v xs ∧ ∀ a ∈ xs, P a := by
  rcases open_slice ht h with ⟨hcs, -⟩ | ⟨a, len, cap, m, n', D, Pl, hcs, -, hl, hm, hmm, -, hi⟩
  · injection hcs with hv _
    subst hv
    exact ⟨[], Row.nil w, by simp⟩
  · injection hcs with hv _
    subst hv
    have hlm : len ≤ m := by rw [hmm]; split <;> omega
    have hex : ∀ i : Fin len, ∃ k : α, P k ∧ ∀ j u, (C.c k)[j]? = some u → w.cell? (a.add (i.1 * C.m + j)) = some u := by
      rintro ⟨i, hil⟩
      obtain ⟨cs', hc, ht⟩ := hi i (by omega)
      obtain ⟨k, hw, rfl⟩ := hel _ _ _ ht
      rw [hce] at hc
      obtain ⟨-, hcl, hat⟩ := World.cells?_some hc
      refine ⟨k, hw, fun j u hu => ?_⟩
      have hj : j < C.m := by have := (List.getElem?_eq_some_iff.1 hu).1; rwa [C.len] at this
      have := hat j hj
      rw [hu, add_add] at this
      exact this
    obtain ⟨f, hf⟩ := Classical.axiomOfChoice hex
    have hlen : (List.ofFn f).length = len := by simp
    refine ⟨List.ofFn f, ?_, fun k hk => ?_⟩
    · by_cases h0 : len = 0
      · subst h0
        exact .inl ⟨some a, cap, rfl, by simp, hm, by simp⟩
      · obtain ⟨b, off, spot⟩ := a
        have hp : 0 < (C.c (f ⟨0, by omega⟩)).length := by rw [C.len]; exact C.pos
        have hspot : spot = none := by
          have := (hf ⟨0, by omega⟩).2 0 _ (List.getElem?_eq_getElem hp)
          simpa [Addr.add] using World.cell?_spot this
        subst hspot
        refine .inr ⟨b, off, cap, by rw [hlen], by omega, by omega, hm, fun j u hu => ?_⟩
        have hjl : j < len * C.m := by
          have := (List.getElem?_eq_some_iff.1 hu).1
          rwa [fl_len, hlen] at this
        have e1 : j / C.m * C.m + j % C.m = j := by rw [Nat.mul_comm]; exact Nat.div_add_mod j C.m
        have hd : j / C.m < len := by rw [Nat.div_lt_iff_lt_mul C.pos]; exact hjl
        have g := fl_get C (List.ofFn f) (j / C.m) (j % C.m) (by omega) (Nat.mod_lt _ C.pos)
        rw [e1, hu] at g
        have := (hf ⟨j / C.m, hd⟩).2 (j % C.m) u (by rw [g]; simp)
        rw [e1, Go.WideShapes.add_plain] at this
        exact this
    · obtain ⟨i, rfl⟩ := List.mem_ofFn.1 hk
      exact (hf i).1
end

/-- A slice in a cell. -/
structure SV where
  a : Option Addr
  l : Nat
  c : Nat
@[reducible] def SV.v (x : SV) : Value := .slice x.a x.l x.c
def svC : Cel SV := ⟨fun x => [x.v], 1, fun _ => rfl, fun x u hu => by obtain rfl := List.mem_singleton.1 hu; rfl, by decide⟩
/-- A slice of slices of attributes that reads as ls. -/
def Nrow (w : World) (v : Value) (ls : List (List Att)) : Prop := ∃ (ss : List SV) (f : SV → List Att), Row svC w v ss ∧ ls = ss.map f ∧ ∀ x ∈ ss, Arow w x.v (f x)
theorem Nrow.shape {w : World} {v : Value} {ls : List (List Att)} (h : Nrow w v ls) : ∃ a cap, v = .slice a ls.length cap := by
  obtain ⟨ss, f, h1, rfl, -⟩ := h
  obtain ⟨a, cap, rfl⟩ := h1.shape
  exact ⟨a, cap, by simp⟩
theorem Nrow.len {w : World} {v : Value} {ls : List (List Att)} (h : Nrow w v ls) : ls.length ≤ 9223372036854775807 := by
  obtain ⟨ss, f, h1, rfl, -⟩ := h
  have := h1.len
  simpa using this
theorem Nrow.below {B : Nat} {w w' : World} {v : Value} {ls : List (List Att)} (h : Nrow w v ls) (hb : Below B w w') (hB : w.heap.size ≤ B) : Nrow w' v ls := by
  obtain ⟨ss, f, h1, h2, h3⟩ := h
  exact ⟨ss, f, h1.below hb hB, h2, fun x hx => (h3 x hx).below hb hB⟩
theorem Nrow.opn {w : World} {a : Option Addr} {n cap : Nat} {ls : List (List Att)} (h : Nrow w (.slice a n cap) ls) (h0 : 0 < ls.length) :
    ∃ b off, a = some ⟨b, off, none⟩ ∧ n = ls.length ∧ ls.length ≤ cap ∧ cap ≤ maxLen ∧ b < w.heap.size ∧ (∀ j (hj : j < ls.length), ∃ xa xc, w.cell? ⟨b, off + j, none⟩ = some (.slice xa ls[j].length xc) ∧ Arow w (.slice xa ls[j].length xc) ls[j]) := by
  obtain ⟨ss, f, h1, rfl, h3⟩ := h
  rw [List.length_map] at h0
  obtain ⟨b, off, ha, hn, hc, hm, hb, hat, -⟩ := Row.opened h1 h0
  refine ⟨b, off, ha, by rw [List.length_map]; exact hn, by rw [List.length_map]; exact hc, hm, hb, fun j hj => ?_⟩
  have hj' : j < ss.length := by simpa using hj
  have hr := h3 ss[j] (List.getElem_mem hj')
  have hcell := hat j hj' 0 _ rfl
  rw [show j * svC.m = j from Nat.mul_one j, Nat.add_zero] at hcell
  rw [List.getElem_map]
  obtain ⟨xa, xc, e⟩ := hr.shape
  rw [e] at hr hcell
  exact ⟨xa, xc, hcell, hr⟩

section
variable {H : Type} {enc : TypeId × Value → H} {w : World} {base : Nat} {spare : Nat → Bool} {held : Bool}
theorem slice_cells7 : Try.prog.cellsOf 33 = 1 := by kernel_rfl
theorem open_nest {n : Nat} {v : Value} {x : DataW H × List MemPlace} (h : DataW.trod enc Try.prog w base spare held n 22 [v] = some x) : ∃ ls : List (List Att), Nrow w v ls ∧ ∀ l ∈ ls, ∀ a ∈ l, AttW a := by
  obtain ⟨ss, h1, h2⟩ := open_rowC svC (fun x : SV => ∃ xs, Arow w x.v xs ∧ ∀ a ∈ xs, AttW a) Try.underlying22 slice_cells7 (fun n cs y hy => by
    have hv : ∃ u : Value, cs = [u] := by
      rcases open_slice Try.underlying33 hy with ⟨hcs, -⟩ | ⟨a, len, cap, m, n', D, Pl, hcs, -⟩
      · exact ⟨_, hcs⟩
      · exact ⟨_, hcs⟩
    obtain ⟨u, rfl⟩ := hv
    obtain ⟨xs, q1, q2⟩ := open_atts hy
    obtain ⟨a, cap, rfl⟩ := q1.shape
    exact ⟨⟨a, xs.length, cap⟩, ⟨xs, q1, q2⟩, rfl⟩) h
  have hch : ∀ x : SV, ∃ xs : List Att, x ∈ ss → Arow w x.v xs ∧ ∀ a ∈ xs, AttW a := fun x => by
    by_cases hx : x ∈ ss
    · obtain ⟨xs, q⟩ := h2 x hx
      exact ⟨xs, fun _ => q⟩
    · exact ⟨[], fun hc => absurd hc hx⟩
  obtain ⟨f, hf⟩ := Classical.axiomOfChoice hch
  refine ⟨ss.map f, ⟨ss, f, h1, rfl, fun x hx => (hf x hx).1⟩, fun l hl => ?_⟩
  obtain ⟨x, hx, rfl⟩ := List.mem_map.1 hl
  exact (hf x hx).2
end
end Go.Proofs.Yteodfbkfpboehaa

/- I23 -/
/- I23: InternStays -/
namespace Go.Proofs.Yteodfbkfpboehaa
open Go.RowKit
set_option linter.unusedVariables false

end Go.Proofs.Yteodfbkfpboehaa

/- C1: changes as plain data -/
namespace Go.Proofs.Yteodfbkfpboehaa
open Go.RowKit
set_option linter.unusedVariables false

/-- A change: its key, whether it is gone, and the value's kind, number, bits, text. -/
structure Chg where
  key : Int
  g : Bool
  k : Int
  n : Int
  f : Int
  s : ByteArray
deriving DecidableEq

@[reducible] def cv (a : Chg) : Value := .agg #[.int .i64 a.key, .bool a.g, .int .u8 a.k, .int .i64 a.n, .int .u64 a.f, .string a.s]
@[reducible] def cc (a : Chg) : List Value := [.int .i64 a.key, .bool a.g, .int .u8 a.k, .int .i64 a.n, .int .u64 a.f, .string a.s]
@[reducible] def cca (a : Chg) : Array Value := #[.int .i64 a.key, .bool a.g, .int .u8 a.k, .int .i64 a.n, .int .u64 a.f, .string a.s]
@[reducible] def noChg : Chg := ⟨0, false, 0, 0, 0, ⟨#[]⟩⟩
instance : Inhabited Chg := ⟨noChg⟩

theorem cc_one (a : Chg) : ∀ u ∈ cc a, u.oneCell' = true := by
  intro u hu
  simp at hu
  rcases hu with rfl | rfl | rfl | rfl | rfl | rfl <;> rfl
/-- How a change lies: six cells. -/
def chC : Cel Chg := ⟨cc, 6, fun _ => rfl, cc_one, by decide⟩
theorem chC_m : chC.m = 6 := rfl
theorem chC_c (a : Chg) : chC.c a = cc a := rfl

/-- What a change's numbers are within. -/
structure ChgW (a : Chg) : Prop where
  key : (Lit.int .i64 a.key).wf = true
  k : (Lit.int .u8 a.k).wf = true
  n : (Lit.int .i64 a.n).wf = true
  f : (Lit.int .u64 a.f).wf = true
  s : a.s.size ≤ maxLen
theorem ChgW.f0 {a : Chg} (h : ChgW a) : 0 ≤ a.f := by have := Go.bounds_u64 h.f; omega
theorem ChgW.f1 {a : Chg} (h : ChgW a) : a.f < 18446744073709551616 := by have := Go.bounds_u64 h.f; omega

/-- Its six cells at a place; at a block's head. -/
@[reducible] def CAt (b o : Nat) (a : Chg) (w : World) : Prop :=
  w.cell? ⟨b, o, none⟩ = some (.int .i64 a.key) ∧ w.cell? ⟨b, o + 1, none⟩ = some (.bool a.g) ∧ w.cell? ⟨b, o + 2, none⟩ = some (.int .u8 a.k) ∧ w.cell? ⟨b, o + 3, none⟩ = some (.int .i64 a.n) ∧ w.cell? ⟨b, o + 4, none⟩ = some (.int .u64 a.f) ∧ w.cell? ⟨b, o + 5, none⟩ = some (.string a.s)
@[reducible] def CBox (b : Nat) (a : Chg) (w : World) : Prop :=
  w.cell? ⟨b, 0, none⟩ = some (.int .i64 a.key) ∧ w.cell? ⟨b, 1, none⟩ = some (.bool a.g) ∧ w.cell? ⟨b, 2, none⟩ = some (.int .u8 a.k) ∧ w.cell? ⟨b, 3, none⟩ = some (.int .i64 a.n) ∧ w.cell? ⟨b, 4, none⟩ = some (.int .u64 a.f) ∧ w.cell? ⟨b, 5, none⟩ = some (.string a.s)
theorem CAt.below {B b o : Nat} {a : Chg} {w w' : World} (h : CAt b o a w) (hb : Below B w w') (hB : b < B) : CAt b o a w' := by
  obtain ⟨h0, h1, h2, h3, h4, h5⟩ := h
  exact ⟨(hb.cell (p := ⟨b, _, none⟩) hB).trans h0, (hb.cell (p := ⟨b, _, none⟩) hB).trans h1, (hb.cell (p := ⟨b, _, none⟩) hB).trans h2, (hb.cell (p := ⟨b, _, none⟩) hB).trans h3, (hb.cell (p := ⟨b, _, none⟩) hB).trans h4, (hb.cell (p := ⟨b, _, none⟩) hB).trans h5⟩
theorem CBox.below {B b : Nat} {a : Chg} {w w' : World} (h : CBox b a w) (hb : Below B w w') (hB : b < B) : CBox b a w' := by
  obtain ⟨h0, h1, h2, h3, h4, h5⟩ := h
  exact ⟨(hb.cell (p := ⟨b, _, none⟩) hB).trans h0, (hb.cell (p := ⟨b, _, none⟩) hB).trans h1, (hb.cell (p := ⟨b, _, none⟩) hB).trans h2, (hb.cell (p := ⟨b, _, none⟩) hB).trans h3, (hb.cell (p := ⟨b, _, none⟩) hB).trans h4, (hb.cell (p := ⟨b, _, none⟩) hB).trans h5⟩
theorem CBox.box (a : Chg) (w : World) (t : TypeId) : CBox w.heap.size a (w.alloc (.cells (cca a) t)) := by
  refine ⟨?_, ?_, ?_, ?_, ?_, ?_⟩ <;> (rw [cell_of_row _ w.heap.size _ _ t (0, 0) (heap_alloc_new w _)]; rfl)
theorem CBox.lt {b : Nat} {a : Chg} {w : World} (h : CBox b a w) : b < w.heap.size := World.block_lt_of_cell? w _ h.1
theorem CAt.lt {b o : Nat} {a : Chg} {w : World} (h : CAt b o a w) : b < w.heap.size := World.block_lt_of_cell? w _ h.1

/-- A slice of changes that reads as xs. -/
@[reducible] def Crow (w : World) (v : Value) (xs : List Chg) : Prop := Row chC w v xs
theorem Crow.opn {w : World} {a : Option Addr} {n cap : Nat} {xs : List Chg} (h : Crow w (.slice a n cap) xs) (h0 : 0 < xs.length) :
    ∃ b off, a = some ⟨b, off, none⟩ ∧ n = xs.length ∧ xs.length ≤ cap ∧ cap ≤ maxLen ∧ b < w.heap.size ∧ (∀ j (hj : j < xs.length), CAt b (off + j * 6) xs[j] w) := by
  obtain ⟨b, off, ha, hn, hc, hm, hb, hat, -⟩ := Row.opened h h0
  refine ⟨b, off, ha, hn, hc, hm, hb, fun j hj => ⟨?_, ?_, ?_, ?_, ?_, ?_⟩⟩
  · exact hat j hj 0 _ rfl
  · exact hat j hj 1 _ rfl
  · exact hat j hj 2 _ rfl
  · exact hat j hj 3 _ rfl
  · exact hat j hj 4 _ rfl
  · exact hat j hj 5 _ rfl

set_option maxRecDepth 100000 in
theorem info_ch : ∃ i0, Try.prog.info? 50 = some i0 ∧ i0.zero = some (cv noChg) ∧ i0.size = 6 ∧ i0.bytes = 56 := by
  refine ⟨_, rfl, ?_, ?_, ?_⟩ <;> kernel_rfl
set_option maxRecDepth 100000 in
theorem info_at : ∃ i0, Try.prog.info? 77 = some i0 ∧ i0.zero = some (av noAtt) ∧ i0.size = 5 ∧ i0.bytes = 48 := by
  refine ⟨_, rfl, ?_, ?_, ?_⟩ <;> kernel_rfl

def ceq (a b : Chg) : Bool := (a.key == b.key) && ((a.g == b.g) && ((a.k == b.k) && (a.n == b.n) && (a.f == b.f) && (a.s.toList == b.s.toList)))
theorem ceq_iff (a b : Chg) : ceq a b = true ↔ a = b := by
  obtain ⟨a1, a0, a2, a3, a4, a5⟩ := a
  obtain ⟨b1, b0, b2, b3, b4, b5⟩ := b
  have hs : a5.toList = b5.toList ↔ a5 = b5 := by
    rw [ByteArray.toList_eq, ByteArray.toList_eq]
    exact ⟨fun h => Go.WideShapes.bytes_inj h, fun h => by rw [h]⟩
  simp [ceq, hs, and_assoc]
theorem ceq_dec (a b : Chg) : ceq a b = decide (a = b) := by
  rw [Bool.eq_iff_iff, ceq_iff]; simp

set_option maxRecDepth 100000 in
set_option maxHeartbeats 800000 in
theorem chg_in (a b : Chg) (w : World) : (Op.equalIn 10000 50 (cv a) (cv b)).run Try.prog w = .ok (ceq a b) w := by
  obtain ⟨a1, a0, a2, a3, a4, a5⟩ := a
  obtain ⟨b1, b0, b2, b3, b4, b5⟩ := b
  have hS : Try.prog.underlying 50 = some (.struct (Try.prog.fieldsOf 50)) := by kernel_rfl
  have hp : Try.prog.stoodInHeld 50 = false := by kernel_rfl
  have u0 := Try.underlying3
  have ag0 := Try.isAgg3
  have ag4 := Try.isAgg4
  have ag5 := Try.isAgg48
  have z0 := Try.sizeOf3
  have z4 := Try.sizeOf4
  have z5 := Try.sizeOf48
  rw [show (10000 : Nat) = 9999 + 1 from rfl, run_equalIn_agg w 9999 50 _ _ hS hp]
  simp only [Program.fieldsOf, Try.underlying50]
  simp only [Op.eqFields, ne_eq]
  go_simp
  unfold ceq
  by_cases h1 : a1 = b1 <;> by_cases h0 : a0 = b0 <;> by_cases h2 : a2 = b2 <;> by_cases h3 : a3 = b3 <;> by_cases h4 : a4 = b4 <;> by_cases h5 : a5.toList = b5.toList <;> simp [h1, h0, h2, h3, h4, h5]
theorem chg_eql (a b : Chg) (w : World) : (binOp .eql 50 (cv a) (cv b)).run Try.prog w = .ok (.bool (ceq a b)) w := by
  rw [run_eql_struct, chg_in]; rfl
theorem chg_neq (a b : Chg) (w : World) : (binOp .neq 50 (cv a) (cv b)).run Try.prog w = .ok (.bool (!ceq a b)) w := by
  rw [run_neq_struct, chg_in]; rfl

/-- An attribute as a change, and back. -/
@[reducible] def toC (a : Att) : Chg := ⟨a.key, false, a.k, a.n, a.f, a.s⟩
@[reducible] def toA (c : Chg) : Att := ⟨c.key, c.k, c.n, c.f, c.s⟩
/-- A new row of one, of two. -/
theorem crow_one (w : World) (x : Chg) (t : TypeId) : Crow (w.alloc (.cells (cca x) t)) (.slice (some ⟨w.heap.size, 0, none⟩) 1 1) [x] := Row.built (C := chC) w t [x] (by unfold maxLen; simp)
theorem crow_two (w : World) (x y : Chg) (t : TypeId) : Crow (w.alloc (.cells (cca x ++ cca y) t)) (.slice (some ⟨w.heap.size, 0, none⟩) 2 2) [x, y] := Row.built (C := chC) w t [x, y] (by unfold maxLen; simp)
end Go.Proofs.Yteodfbkfpboehaa

/- C2: two rows side by side, as plain data -/
namespace Go.Proofs.Yteodfbkfpboehaa
open Go.RowKit
set_option linter.unusedVariables false

/-- Of each key that one of two rows has, what each has of it. -/
def sbsIn (x : Chg) (f : List Chg → List (Option Chg × Option Chg)) : List Chg → List (Option Chg × Option Chg)
  | [] => (some x, none) :: f []
  | y :: r => if x.key < y.key then (some x, none) :: f (y :: r) else if y.key < x.key then (none, some y) :: sbsIn x f r else (some x, some y) :: f r
def sbs : List Chg → List Chg → List (Option Chg × Option Chg)
  | [], r => r.map fun y => (none, some y)
  | x :: l, r => sbsIn x (fun s => sbs l s) r
theorem sbs_nn : sbs [] [] = [] := rfl
theorem sbs_cn (x : Chg) (l : List Chg) : sbs (x :: l) [] = (some x, none) :: sbs l [] := rfl
theorem sbs_nc (y : Chg) (r : List Chg) : sbs [] (y :: r) = (none, some y) :: sbs [] r := rfl
theorem sbs_lt {x y : Chg} {l r : List Chg} (h : x.key < y.key) : sbs (x :: l) (y :: r) = (some x, none) :: sbs l (y :: r) := by
  show sbsIn x (fun s => sbs l s) (y :: r) = _
  rw [sbsIn, if_pos h]
theorem sbs_gt {x y : Chg} {l r : List Chg} (h : y.key < x.key) : sbs (x :: l) (y :: r) = (none, some y) :: sbs (x :: l) r := by
  show sbsIn x (fun s => sbs l s) (y :: r) = _
  rw [sbsIn, if_neg (by omega), if_pos h]
  rfl
theorem sbs_eq {x y : Chg} {l r : List Chg} (h1 : ¬ x.key < y.key) (h2 : ¬ y.key < x.key) : sbs (x :: l) (y :: r) = (some x, some y) :: sbs l r := by
  show sbsIn x (fun s => sbs l s) (y :: r) = _
  rw [sbsIn, if_neg h1, if_neg h2]

/-- A pointer to a change, or to none. -/
def Ptr (W : World) (p : Value) : Option Chg → Prop
  | none => p = .pointer none
  | some x => ∃ b o, p = .pointer (some ⟨b, o, none⟩) ∧ CAt b o x W
theorem ptr_none (W : World) : Ptr W (.pointer none) none := rfl
theorem ptr_some {W : World} {b o : Nat} {x : Chg} (h : CAt b o x W) : Ptr W (.pointer (some ⟨b, o, none⟩)) (some x) := ⟨b, o, rfl, h⟩

@[reducible] def Told : Type := List (Option Chg × Option Chg)
/-- One of both, at least. -/
def One : Option Chg → Option Chg → Prop
  | none, none => False
  | _, _ => True
/-- What is asked of the function that is told each key. -/
structure Pays (g : Nat) (caps : Array Value) (I : Told → World → Prop) (v1 v2 : Value) (xs ys : List Chg) : Prop where
  enters : ∀ args w, (callFunc g args).run Try.prog w = .ok (.enter g args) w
  row1 : ∀ T W, I T W → Crow W v1 xs
  row2 : ∀ T W, I T W → Crow W v2 ys
  drew : ∀ T W n, I T W → I T (W.drewN n)
  pay : ∀ T x y p q W, I T W → One x y → T.length < xs.length + ys.length → Ptr W p x → Ptr W q y → Calls Try.prog g (#[p, q] ++ caps) W fun e W' => e = .returned (.tuple #[]) ∧ I (T ++ [(x, y)]) W'

/-- The loop's state. -/
structure SRel (I : Told → World → Prop) (v1 v2 : Value) (xs ys : List Chg) (a1 : Option Addr) (n1 c1 : Nat) (a2 : Option Addr) (n2 c2 : Nat) (l r : List Chg) (T : Told) (wr : World) : Prop where
  t1 : ∀ W, Crow W v1 xs → Crow W (.slice a1 n1 c1) l
  t2 : ∀ W, Crow W v2 ys → Crow W (.slice a2 n2 c2) r
  m1 : n1 = l.length
  m2 : n2 = r.length
  inv : I T wr
  eq : T ++ sbs l r = sbs xs ys
  len : T.length + (l.length + r.length) ≤ xs.length + ys.length

theorem crow_next {x : Chg} {l : List Chg} {a : Option Addr} {n c : Nat} {W : World} (h : Crow W (.slice a (n + 1) c) (x :: l)) :
    (c = 1 → Crow W (.slice a n 0) l) ∧ (¬ c = 1 → Crow W (.slice (a.map fun y => y.add 6) n (c - 1)) l) := by
  have hn : n = l.length := by
    obtain ⟨_, _, e⟩ := h.shape
    injection e with _ e _
    simpa using e
  subst hn
  have := Row.tail (lo := 1) h (by simp)
  simpa [chC_m] using this
theorem SRel.left {I : Told → World → Prop} {v1 v2 : Value} {xs ys : List Chg} {b o n c : Nat} {a2 : Option Addr} {n2 c2 : Nat} {x : Chg} {l r : List Chg} {T : Told} {wr w' : World}
    (h : SRel I v1 v2 xs ys (some ⟨b, o, none⟩) (n + 1) c a2 n2 c2 (x :: l) r T wr) (hs : sbs (x :: l) r = (some x, none) :: sbs l r) (hI : I (T ++ [(some x, none)]) w') :
    (c = 1 → SRel I v1 v2 xs ys (some ⟨b, o, none⟩) n 0 a2 n2 c2 l r (T ++ [(some x, none)]) w') ∧ (¬ c = 1 → SRel I v1 v2 xs ys (some ⟨b, o + 6, none⟩) n (c - 1) a2 n2 c2 l r (T ++ [(some x, none)]) w') := by
  have hn : n = l.length := by have := h.m1; simpa using this
  have he : T ++ [(some x, none)] ++ sbs l r = sbs xs ys := by rw [← h.eq, hs]; simp
  have hl : (T ++ [(some x, (none : Option Chg))]).length + (l.length + r.length) ≤ xs.length + ys.length := by have := h.len; simp at this ⊢; omega
  exact ⟨fun hc => ⟨fun W hW => (crow_next (h.t1 W hW)).1 hc, h.t2, hn, h.m2, hI, he, hl⟩, fun hc => ⟨fun W hW => (crow_next (h.t1 W hW)).2 hc, h.t2, hn, h.m2, hI, he, hl⟩⟩
theorem SRel.right {I : Told → World → Prop} {v1 v2 : Value} {xs ys : List Chg} {b o n c : Nat} {a1 : Option Addr} {n1 c1 : Nat} {y : Chg} {l r : List Chg} {T : Told} {wr w' : World}
    (h : SRel I v1 v2 xs ys a1 n1 c1 (some ⟨b, o, none⟩) (n + 1) c l (y :: r) T wr) (hs : sbs l (y :: r) = (none, some y) :: sbs l r) (hI : I (T ++ [(none, some y)]) w') :
    (c = 1 → SRel I v1 v2 xs ys a1 n1 c1 (some ⟨b, o, none⟩) n 0 l r (T ++ [(none, some y)]) w') ∧ (¬ c = 1 → SRel I v1 v2 xs ys a1 n1 c1 (some ⟨b, o + 6, none⟩) n (c - 1) l r (T ++ [(none, some y)]) w') := by
  have hn : n = r.length := by have := h.m2; simpa using this
  have he : T ++ [(none, some y)] ++ sbs l r = sbs xs ys := by rw [← h.eq, hs]; simp
  have hl : (T ++ [((none : Option Chg), some y)]).length + (l.length + r.length) ≤ xs.length + ys.length := by have := h.len; simp at this ⊢; omega
  exact ⟨fun hc => ⟨h.t1, fun W hW => (crow_next (h.t2 W hW)).1 hc, h.m1, hn, hI, he, hl⟩, fun hc => ⟨h.t1, fun W hW => (crow_next (h.t2 W hW)).2 hc, h.m1, hn, hI, he, hl⟩⟩
theorem SRel.both {I : Told → World → Prop} {v1 v2 : Value} {xs ys : List Chg} {b o n c b2 o2 n2 c2 : Nat} {x y : Chg} {l r : List Chg} {T : Told} {wr w' : World}
    (h : SRel I v1 v2 xs ys (some ⟨b, o, none⟩) (n + 1) c (some ⟨b2, o2, none⟩) (n2 + 1) c2 (x :: l) (y :: r) T wr) (hs : sbs (x :: l) (y :: r) = (some x, some y) :: sbs l r) (hI : I (T ++ [(some x, some y)]) w') :
    (c = 1 → c2 = 1 → SRel I v1 v2 xs ys (some ⟨b, o, none⟩) n 0 (some ⟨b2, o2, none⟩) n2 0 l r (T ++ [(some x, some y)]) w') ∧ (c = 1 → ¬ c2 = 1 → SRel I v1 v2 xs ys (some ⟨b, o, none⟩) n 0 (some ⟨b2, o2 + 6, none⟩) n2 (c2 - 1) l r (T ++ [(some x, some y)]) w') ∧
    (¬ c = 1 → c2 = 1 → SRel I v1 v2 xs ys (some ⟨b, o + 6, none⟩) n (c - 1) (some ⟨b2, o2, none⟩) n2 0 l r (T ++ [(some x, some y)]) w') ∧ (¬ c = 1 → ¬ c2 = 1 → SRel I v1 v2 xs ys (some ⟨b, o + 6, none⟩) n (c - 1) (some ⟨b2, o2 + 6, none⟩) n2 (c2 - 1) l r (T ++ [(some x, some y)]) w') := by
  have hn : n = l.length := by have := h.m1; simpa using this
  have hn2 : n2 = r.length := by have := h.m2; simpa using this
  have he : T ++ [(some x, some y)] ++ sbs l r = sbs xs ys := by rw [← h.eq, hs]; simp
  have hl : (T ++ [(some x, some y)]).length + (l.length + r.length) ≤ xs.length + ys.length := by have := h.len; simp at this ⊢; omega
  exact ⟨fun hc hd => ⟨fun W hW => (crow_next (h.t1 W hW)).1 hc, fun W hW => (crow_next (h.t2 W hW)).1 hd, hn, hn2, hI, he, hl⟩, fun hc hd => ⟨fun W hW => (crow_next (h.t1 W hW)).1 hc, fun W hW => (crow_next (h.t2 W hW)).2 hd, hn, hn2, hI, he, hl⟩,
    fun hc hd => ⟨fun W hW => (crow_next (h.t1 W hW)).2 hc, fun W hW => (crow_next (h.t2 W hW)).1 hd, hn, hn2, hI, he, hl⟩, fun hc hd => ⟨fun W hW => (crow_next (h.t1 W hW)).2 hc, fun W hW => (crow_next (h.t2 W hW)).2 hd, hn, hn2, hI, he, hl⟩⟩
/-- What a round has at hand of a row that is not at its end. -/
theorem head_at {W : World} {a : Option Addr} {n c : Nat} {x : Chg} {l : List Chg} (h : Crow W (.slice a n c) (x :: l)) : ∃ b o m, a = some ⟨b, o, none⟩ ∧ n = m + 1 ∧ m + 1 ≤ c ∧ c ≤ maxLen ∧ CAt b o x W := by
  obtain ⟨b, o, rfl, hn, hc, hm, -, hat⟩ := Crow.opn h (by simp)
  refine ⟨b, o, l.length, rfl, by simpa using hn, by simpa using hc, hm, ?_⟩
  have := hat 0 (by simp)
  simpa only [Nat.zero_mul, Nat.add_zero, List.getElem_cons_zero] using this
def slLen : Value → Nat
  | .slice _ n _ => n
  | _ => 0

set_option maxRecDepth 100000 in
set_option maxHeartbeats 2000000 in
theorem side_any (g : Nat) (caps : Array Value) (v1 v2 : Value) (xs ys : List Chg) (I : Told → World → Prop) (hp : Pays g caps I v1 v2 xs ys) (w : World) (hI : I [] w) :
    Calls Try.prog 73 #[v1, v2, .func (.func g) #[] caps] w fun e w' => e = .returned (.tuple #[]) ∧ I (sbs xs ys) w' := by
  have eg := hp.enters
  have HP := Lib.hid hp
  obtain ⟨a1, c1, e1⟩ := (hp.row1 _ _ hI).shape
  obtain ⟨a2, c2, e2⟩ := (hp.row2 _ _ hI).shape
  have hini : SRel I v1 v2 xs ys a1 xs.length c1 a2 ys.length c2 xs ys [] w := ⟨fun W h => by rw [← e1]; exact h, fun W h => by rw [← e2]; exact h, rfl, rfl, hI, rfl, by simp⟩
  generalize hn1 : xs.length = N1 at hini e1
  generalize hn2 : ys.length = N2 at hini e2
  have HI := Lib.hid hini
  have hgo : ∀ (w : World) (a1 : Option Addr) (N1 c1 : Nat) (a2 : Option Addr) (N2 c2 : Nat), Hid (SRel I v1 v2 xs ys a1 N1 c1 a2 N2 c2 xs ys [] w) → Calls Try.prog 73 #[.slice a1 N1 c1, .slice a2 N2 c2, .func (.func g) #[] caps] w fun e w' => e = .returned (.tuple #[]) ∧ I (sbs xs ys) w' := by
    clear hini hI e1 e2 HI hn1 hn2
    clear hp
    intro w a1 N1 c1 a2 N2 c2 HI
    go_enter Try.func73, Try.ntmps73
    go_wp2
    go_step3
    go_wp2
    go_step3
    go_wp2
    go_loopw [0, 1] (fun s0 s1 wr => ∃ a1 n1 c1 a2 n2 c2 l r T, s0 = .slice a1 n1 c1 ∧ s1 = .slice a2 n2 c2 ∧ Hid (SRel I v1 v2 xs ys a1 n1 c1 a2 n2 c2 l r T wr)) (fun s0 s1 _ => slLen s0 + slLen s1)
    case atStart => exact ⟨_, _, _, _, _, _, _, _, _, rfl, rfl, HI⟩
    case round =>
      clear HI
      obtain ⟨b1, n1, d1, b2, n2, d2, l, r, T, rfl, rfl, HR⟩ := hrel
      cases l with
      | nil =>
        obtain rfl : n1 = 0 := HR.out.m1
        cases r with
        | nil =>
          obtain rfl : n2 = 0 := HR.out.m2
          have hend : I (sbs xs ys) wr := by have := HR.out.eq; rw [sbs_nn, List.append_nil] at this; rw [← this]; exact HR.out.inv
          have HE := Lib.hid hend
          clear hend HR HP
          go_wp2
          rw [Exit.noGoto_normal]
          go_end0
          exact ⟨rfl, HE.out⟩
        | cons y r =>
          obtain ⟨b2, o2, m2, rfl, rfl, hmc2, hcm2, hat2⟩ := head_at (HR.out.t2 _ (HP.out.row2 _ _ HR.out.inv))
          have z2 : ((m2 : Int) + 1 == 0) = false := by simp; omega
          have hm632 : (m2 : Int) + 1 ≤ 9223372036854775807 := by unfold maxLen at hcm2; omega
          have h012 : (0 : Int) < (m2 : Int) + 1 := by omega
          have h112 : (1 : Int) ≤ (m2 : Int) + 1 := by omega
          have hmc21 : (m2 : Int) + 1 ≤ (d2 : Int) := by omega
          have hlen : T.length < xs.length + ys.length := by have := HR.out.len; simp at this; omega
          have HN := Lib.hid (fun W hI => HR.out.right (w' := W) (sbs_nc y r) hI)
          have HQ := Lib.hid (fun n => HP.out.pay T none (some y) (.pointer none) (.pointer (some ⟨b2, o2, none⟩)) (wr.drewN n) (HP.out.drew _ _ _ HR.out.inv) trivial hlen (ptr_none _) (ptr_some (hat2.below (blw_drewN (Below.refl _ _) n) hat2.lt)))
          clear hat2 HP HR
          go_wp2
          go_quiet (fail)
          go_wp2
          go_quiet (fail)
          by_cases hc1 : d2 = 1
          · have HN1 := Lib.hid (fun W hI => (HN.out W hI).1 hc1)
            subst hc1
            obtain rfl : m2 = 0 := by omega
            go_wp2_with (go_at_fn g; refine (HQ.out _).mono ?_; rintro e w1 ⟨rfl, hI1⟩)
            have HN2 := Lib.hid (HN1.out _ hI1)
            go_roundw
            case rel => exact ⟨_, _, _, _, _, _, _, _, _, rfl, rfl, HN2⟩
            case measure => simp [slLen]; try omega
          · have HN1 := Lib.hid (fun W hI => (HN.out W hI).2 hc1)
            go_wp2_with (go_at_fn g; refine (HQ.out _).mono ?_; rintro e w1 ⟨rfl, hI1⟩)
            have HN2 := Lib.hid (HN1.out _ hI1)
            go_roundw
            case rel => exact ⟨_, _, _, _, _, _, _, _, _, rfl, rfl, HN2⟩
            case measure => simp [slLen]; try omega
      | cons x l =>
        cases r with
        | nil =>
          obtain rfl : n2 = 0 := HR.out.m2
          obtain ⟨b, o, m, rfl, rfl, hmc, hcm, hat⟩ := head_at (HR.out.t1 _ (HP.out.row1 _ _ HR.out.inv))
          have z1 : ((m : Int) + 1 == 0) = false := by simp; omega
          have hm63 : (m : Int) + 1 ≤ 9223372036854775807 := by unfold maxLen at hcm; omega
          have h01 : (0 : Int) < (m : Int) + 1 := by omega
          have h11 : (1 : Int) ≤ (m : Int) + 1 := by omega
          have hmc1 : (m : Int) + 1 ≤ (d1 : Int) := by omega
          have hlen : T.length < xs.length + ys.length := by have := HR.out.len; simp at this; omega
          have HN := Lib.hid (fun W hI => HR.out.left (w' := W) (sbs_cn x l) hI)
          have HQ := Lib.hid (fun n => HP.out.pay T (some x) none (.pointer (some ⟨b, o, none⟩)) (.pointer none) (wr.drewN n) (HP.out.drew _ _ _ HR.out.inv) trivial hlen (ptr_some (hat.below (blw_drewN (Below.refl _ _) n) hat.lt)) (ptr_none _))
          clear hat HP HR
          go_wp2
          go_quiet (fail)
          by_cases hc1 : d1 = 1
          · have HN1 := Lib.hid (fun W hI => (HN.out W hI).1 hc1)
            subst hc1
            obtain rfl : m = 0 := by omega
            go_wp2_with (go_at_fn g; refine (HQ.out _).mono ?_; rintro e w1 ⟨rfl, hI1⟩)
            have HN2 := Lib.hid (HN1.out _ hI1)
            go_roundw
            case rel => exact ⟨_, _, _, _, _, _, _, _, _, rfl, rfl, HN2⟩
            case measure => simp [slLen]; try omega
          · have HN1 := Lib.hid (fun W hI => (HN.out W hI).2 hc1)
            go_wp2_with (go_at_fn g; refine (HQ.out _).mono ?_; rintro e w1 ⟨rfl, hI1⟩)
            have HN2 := Lib.hid (HN1.out _ hI1)
            go_roundw
            case rel => exact ⟨_, _, _, _, _, _, _, _, _, rfl, rfl, HN2⟩
            case measure => simp [slLen]; try omega
        | cons y r =>
          by_cases hk : x.key < y.key
          · skip
            obtain ⟨b, o, m, rfl, rfl, hmc, hcm, hat⟩ := head_at (HR.out.t1 _ (HP.out.row1 _ _ HR.out.inv))
            have z1 : ((m : Int) + 1 == 0) = false := by simp; omega
            have hm63 : (m : Int) + 1 ≤ 9223372036854775807 := by unfold maxLen at hcm; omega
            have h01 : (0 : Int) < (m : Int) + 1 := by omega
            have h11 : (1 : Int) ≤ (m : Int) + 1 := by omega
            have hmc1 : (m : Int) + 1 ≤ (d1 : Int) := by omega
            obtain ⟨b2, o2, m2, rfl, rfl, hmc2, hcm2, hat2⟩ := head_at (HR.out.t2 _ (HP.out.row2 _ _ HR.out.inv))
            have z2 : ((m2 : Int) + 1 == 0) = false := by simp; omega
            have hm632 : (m2 : Int) + 1 ≤ 9223372036854775807 := by unfold maxLen at hcm2; omega
            have h012 : (0 : Int) < (m2 : Int) + 1 := by omega
            have h112 : (1 : Int) ≤ (m2 : Int) + 1 := by omega
            have hmc21 : (m2 : Int) + 1 ≤ (d2 : Int) := by omega
            have hlen : T.length < xs.length + ys.length := by have := HR.out.len; simp at this; omega
            have HN := Lib.hid (fun W hI => HR.out.left (w' := W) (sbs_lt hk) hI)
            have HQ := Lib.hid (fun n => HP.out.pay T (some x) none (.pointer (some ⟨b, o, none⟩)) (.pointer none) (wr.drewN n) (HP.out.drew _ _ _ HR.out.inv) trivial hlen (ptr_some (hat.below (blw_drewN (Below.refl _ _) n) hat.lt)) (ptr_none _))
            obtain ⟨c0, c1, c2, c3, c4, c5⟩ := hat
            obtain ⟨f0, f1, f2, f3, f4, f5⟩ := hat2
            have e1 : decide (x.key < y.key) = true := by simpa using hk
            clear HP HR hk
            go_wp2
            go_quiet (fail)
            by_cases hc1 : d1 = 1
            · have HN1 := Lib.hid (fun W hI => (HN.out W hI).1 hc1)
              subst hc1
              obtain rfl : m = 0 := by omega
              go_wp2_with (go_at_fn g; refine (HQ.out _).mono ?_; rintro e w1 ⟨rfl, hI1⟩)
              have HN2 := Lib.hid (HN1.out _ hI1)
              go_roundw
              case rel => exact ⟨_, _, _, _, _, _, _, _, _, rfl, rfl, HN2⟩
              case measure => simp [slLen]; try omega
            · have HN1 := Lib.hid (fun W hI => (HN.out W hI).2 hc1)
              go_wp2_with (go_at_fn g; refine (HQ.out _).mono ?_; rintro e w1 ⟨rfl, hI1⟩)
              have HN2 := Lib.hid (HN1.out _ hI1)
              go_roundw
              case rel => exact ⟨_, _, _, _, _, _, _, _, _, rfl, rfl, HN2⟩
              case measure => simp [slLen]; try omega
          · by_cases hk2 : y.key < x.key
            · skip
              obtain ⟨b, o, m, rfl, rfl, hmc, hcm, hat⟩ := head_at (HR.out.t1 _ (HP.out.row1 _ _ HR.out.inv))
              have z1 : ((m : Int) + 1 == 0) = false := by simp; omega
              have hm63 : (m : Int) + 1 ≤ 9223372036854775807 := by unfold maxLen at hcm; omega
              have h01 : (0 : Int) < (m : Int) + 1 := by omega
              have h11 : (1 : Int) ≤ (m : Int) + 1 := by omega
              have hmc1 : (m : Int) + 1 ≤ (d1 : Int) := by omega
              obtain ⟨b2, o2, m2, rfl, rfl, hmc2, hcm2, hat2⟩ := head_at (HR.out.t2 _ (HP.out.row2 _ _ HR.out.inv))
              have z2 : ((m2 : Int) + 1 == 0) = false := by simp; omega
              have hm632 : (m2 : Int) + 1 ≤ 9223372036854775807 := by unfold maxLen at hcm2; omega
              have h012 : (0 : Int) < (m2 : Int) + 1 := by omega
              have h112 : (1 : Int) ≤ (m2 : Int) + 1 := by omega
              have hmc21 : (m2 : Int) + 1 ≤ (d2 : Int) := by omega
              have hlen : T.length < xs.length + ys.length := by have := HR.out.len; simp at this; omega
              have HN := Lib.hid (fun W hI => HR.out.right (w' := W) (sbs_gt hk2) hI)
              have HQ := Lib.hid (fun n => HP.out.pay T none (some y) (.pointer none) (.pointer (some ⟨b2, o2, none⟩)) (wr.drewN n) (HP.out.drew _ _ _ HR.out.inv) trivial hlen (ptr_none _) (ptr_some (hat2.below (blw_drewN (Below.refl _ _) n) hat2.lt)))
              obtain ⟨c0, c1, c2, c3, c4, c5⟩ := hat
              obtain ⟨f0, f1, f2, f3, f4, f5⟩ := hat2
              have e1 : decide (x.key < y.key) = false := by simpa using hk
              have e2 : decide (y.key < x.key) = true := by simpa using hk2
              clear HP HR hk hk2
              go_wp2
              go_quiet (fail)
              go_wp2
              go_quiet (fail)
              by_cases hc1 : d2 = 1
              · have HN1 := Lib.hid (fun W hI => (HN.out W hI).1 hc1)
                subst hc1
                obtain rfl : m2 = 0 := by omega
                go_wp2_with (go_at_fn g; refine (HQ.out _).mono ?_; rintro e w1 ⟨rfl, hI1⟩)
                have HN2 := Lib.hid (HN1.out _ hI1)
                go_roundw
                case rel => exact ⟨_, _, _, _, _, _, _, _, _, rfl, rfl, HN2⟩
                case measure => simp [slLen]; try omega
              · have HN1 := Lib.hid (fun W hI => (HN.out W hI).2 hc1)
                go_wp2_with (go_at_fn g; refine (HQ.out _).mono ?_; rintro e w1 ⟨rfl, hI1⟩)
                have HN2 := Lib.hid (HN1.out _ hI1)
                go_roundw
                case rel => exact ⟨_, _, _, _, _, _, _, _, _, rfl, rfl, HN2⟩
                case measure => simp [slLen]; try omega
            · skip
              obtain ⟨b, o, m, rfl, rfl, hmc, hcm, hat⟩ := head_at (HR.out.t1 _ (HP.out.row1 _ _ HR.out.inv))
              have z1 : ((m : Int) + 1 == 0) = false := by simp; omega
              have hm63 : (m : Int) + 1 ≤ 9223372036854775807 := by unfold maxLen at hcm; omega
              have h01 : (0 : Int) < (m : Int) + 1 := by omega
              have h11 : (1 : Int) ≤ (m : Int) + 1 := by omega
              have hmc1 : (m : Int) + 1 ≤ (d1 : Int) := by omega
              obtain ⟨b2, o2, m2, rfl, rfl, hmc2, hcm2, hat2⟩ := head_at (HR.out.t2 _ (HP.out.row2 _ _ HR.out.inv))
              have z2 : ((m2 : Int) + 1 == 0) = false := by simp; omega
              have hm632 : (m2 : Int) + 1 ≤ 9223372036854775807 := by unfold maxLen at hcm2; omega
              have h012 : (0 : Int) < (m2 : Int) + 1 := by omega
              have h112 : (1 : Int) ≤ (m2 : Int) + 1 := by omega
              have hmc21 : (m2 : Int) + 1 ≤ (d2 : Int) := by omega
              have hlen : T.length < xs.length + ys.length := by have := HR.out.len; simp at this; omega
              have HN := Lib.hid (fun W hI => HR.out.both (w' := W) (sbs_eq hk hk2) hI)
              have HQ := Lib.hid (fun n => HP.out.pay T (some x) (some y) (.pointer (some ⟨b, o, none⟩)) (.pointer (some ⟨b2, o2, none⟩)) (wr.drewN n) (HP.out.drew _ _ _ HR.out.inv) trivial hlen (ptr_some (hat.below (blw_drewN (Below.refl _ _) n) hat.lt)) (ptr_some (hat2.below (blw_drewN (Below.refl _ _) n) hat2.lt)))
              have HD := Lib.hid HP.out.drew
              obtain ⟨c0, c1, c2, c3, c4, c5⟩ := hat
              obtain ⟨f0, f1, f2, f3, f4, f5⟩ := hat2
              have e1 : decide (x.key < y.key) = false := by simpa using hk
              have e2 : decide (y.key < x.key) = false := by simpa using hk2
              clear HP HR hk hk2
              go_wp2
              go_quiet (fail)
              go_wp2
              go_quiet (fail)
              go_wp2
              go_region_held3 (fun w' => True) (trivial) ((go_at_fn g; refine (HQ.out _).mono ?_; rintro e w1 ⟨rfl, hI1⟩))
              have HN2 := Lib.hid (fun n => HN.out _ (HD.out _ _ n hI1))
              by_cases hc1 : d1 = 1 <;> by_cases hc2 : d2 = 1
              · have HN3 := Lib.hid (fun n => (HN2.out n).1 hc1 hc2)
                subst hc1 hc2
                obtain rfl : m = 0 := by omega
                obtain rfl : m2 = 0 := by omega
                clear HN HN2 HD HQ hI1
                go_wp2
                go_quiet (fail)
                go_roundw
                case rel => first | exact ⟨_, _, _, _, _, _, _, _, _, rfl, rfl, Lib.hid (HN3.out _)⟩ | exact ⟨_, _, _, _, _, _, _, _, _, _, _, _, _, _, _, _, _, _, _, _, _, _, _, _, _, _, _, _, _, _, _, _, _, _, _, _, _, _, _, _, _, _, _, _, _, _, _, _, _, _, _, _, _, _, _, _, _, _, _, _, _, _, _, _, _, _, _, _, ⟨_, _, _, _, _, _, _, _, _, rfl, rfl, Lib.hid (HN3.out _)⟩, rfl⟩
                case measure => simp [slLen]; try omega
              · have HN3 := Lib.hid (fun n => (HN2.out n).2.1 hc1 hc2)
                subst hc1
                obtain rfl : m = 0 := by omega
                clear HN HN2 HD HQ hI1
                go_wp2
                go_quiet (fail)
                go_roundw
                case rel => first | exact ⟨_, _, _, _, _, _, _, _, _, rfl, rfl, Lib.hid (HN3.out _)⟩ | exact ⟨_, _, _, _, _, _, _, _, _, _, _, _, _, _, _, _, _, _, _, _, _, _, _, _, _, _, _, _, _, _, _, _, _, _, _, _, _, _, _, _, _, _, _, _, _, _, _, _, _, _, _, _, _, _, _, _, _, _, _, _, _, _, _, _, _, _, _, _, ⟨_, _, _, _, _, _, _, _, _, rfl, rfl, Lib.hid (HN3.out _)⟩, rfl⟩
                case measure => simp [slLen]; try omega
              · have HN3 := Lib.hid (fun n => (HN2.out n).2.2.1 hc1 hc2)
                subst hc2
                obtain rfl : m2 = 0 := by omega
                clear HN HN2 HD HQ hI1
                go_wp2
                go_quiet (fail)
                go_roundw
                case rel => first | exact ⟨_, _, _, _, _, _, _, _, _, rfl, rfl, Lib.hid (HN3.out _)⟩ | exact ⟨_, _, _, _, _, _, _, _, _, _, _, _, _, _, _, _, _, _, _, _, _, _, _, _, _, _, _, _, _, _, _, _, _, _, _, _, _, _, _, _, _, _, _, _, _, _, _, _, _, _, _, _, _, _, _, _, _, _, _, _, _, _, _, _, _, _, _, _, ⟨_, _, _, _, _, _, _, _, _, rfl, rfl, Lib.hid (HN3.out _)⟩, rfl⟩
                case measure => simp [slLen]; try omega
              · have HN3 := Lib.hid (fun n => (HN2.out n).2.2.2 hc1 hc2)
                clear HN HN2 HD HQ hI1
                go_wp2
                go_quiet (fail)
                go_roundw
                case rel => first | exact ⟨_, _, _, _, _, _, _, _, _, rfl, rfl, Lib.hid (HN3.out _)⟩ | exact ⟨_, _, _, _, _, _, _, _, _, _, _, _, _, _, _, _, _, _, _, _, _, _, _, _, _, _, _, _, _, _, _, _, _, _, _, _, _, _, _, _, _, _, _, _, _, _, _, _, _, _, _, _, _, _, _, _, _, _, _, _, _, _, _, _, _, _, _, _, ⟨_, _, _, _, _, _, _, _, _, rfl, rfl, Lib.hid (HN3.out _)⟩, rfl⟩
                case measure => simp [slLen]; try omega
  subst e1 e2
  exact hgo _ _ _ _ _ _ _ HI
end Go.Proofs.Yteodfbkfpboehaa

/- C3: what the closures do to the list that they put to -/
namespace Go.Proofs.Yteodfbkfpboehaa
open Go.RowKit
set_option linter.unusedVariables false

/-- The list so far lies in the cell at B0; else nothing that was there at W1 has turned. -/
structure Acc (W1 : World) (B0 : Nat) (v : Value) (ls : List Chg) (W : World) : Prop where
  cell : W.cell? ⟨B0, 0, none⟩ = some v
  free : W.frozen? ⟨B0, 0, none⟩ = false
  own : W.ownsRow W1.heap.size 50 6 v ls.length (fl chC ls)
  grown : W1.grownBy W (some B0)
  lt : B0 < W1.heap.size
theorem grown_drewN {w w' : World} {r : Option Nat} (h : w.grownBy w' r) (n : Nat) : w.grownBy (w'.drewN n) r := by
  obtain ⟨h1, h2, h3, h4, h5⟩ := h
  exact ⟨h1, h2, h3, h4, h5⟩
theorem Acc.drewN {W1 : World} {B0 : Nat} {v : Value} {ls : List Chg} {W : World} (h : Acc W1 B0 v ls W) (n : Nat) : Acc W1 B0 v ls (W.drewN n) :=
  ⟨h.cell, h.free, owns_below h.own (blw_drewN (Below.refl _ _) n), grown_drewN h.grown n, h.lt⟩
theorem Acc.size {W1 : World} {B0 : Nat} {v : Value} {ls : List Chg} {W : World} (h : Acc W1 B0 v ls W) : W1.heap.size ≤ W.heap.size := h.grown.size
/-- A block that was there, but for the cell's, is as it was. -/
theorem Acc.block {W1 : World} {B0 : Nat} {v : Value} {ls : List Chg} {W : World} (h : Acc W1 B0 v ls W) {j : Nat} (hj : j < W1.heap.size) (hn : j ≠ B0) : W.heap[j]? = W1.heap[j]? := by
  exact h.grown.block j hj (by simpa using hn)
theorem Acc.row {W1 : World} {B0 : Nat} {v u : Value} {ls xs : List Chg} {W : World} (h : Acc W1 B0 v ls W) (hr : Crow W1 u xs) (hn : ∀ b o n c, u = .slice (some ⟨b, o, none⟩) n c → b ≠ B0 ∨ xs = []) : Crow W u xs := by
  rcases hr with hr | ⟨b, off, cap, rfl, h0, h1, h2, h3⟩
  · exact .inl hr
  · refine .inr ⟨b, off, cap, rfl, h0, h1, h2, fun j u hu => ?_⟩
    have hc := h3 j u hu
    refine h.grown.cell (a := ⟨b, off + j, none⟩) hc ?_
    rcases hn _ _ _ _ rfl with e | e
    · simpa using e
    · subst e; simp at h0
theorem Acc.ptr {W1 : World} {B0 : Nat} {v : Value} {ls : List Chg} {W w2 w3 : World} (h : Acc W1 B0 v ls W) (hb : Below W.heap.size W w2) (hg : w2.grownBy w3 v.ownBlock) :
    w3.cell? ⟨B0, 0, none⟩ = some v ∧ w3.frozen? ⟨B0, 0, none⟩ = false := by
  have hB : B0 < W.heap.size := Nat.lt_of_lt_of_le h.lt h.size
  have hne : some B0 ≠ v.ownBlock := fun e => by
    have := own_base h.own e.symm
    have := h.lt
    omega
  refine ⟨hg.cell ((hb.cell (p := ⟨B0, 0, none⟩) hB).trans h.cell) hne, ?_⟩
  rw [World.frozen?_of_block (w := w2) (hg.block B0 (Nat.lt_of_lt_of_le hB hb.size) hne)]
  exact (hb.frozen (p := ⟨B0, 0, none⟩) hB).trans h.free
theorem Acc.push {W1 : World} {B0 : Nat} {v v3 : Value} {ls : List Chg} {x : Chg} {W w2 w3 : World} (h : Acc W1 B0 v ls W) (hb : Below W.heap.size W w2) (hg : w2.grownBy w3 v.ownBlock)
    (hown : w3.ownsRow W1.heap.size 50 6 v3 (ls.length + 1) (fl chC ls ++ cc x)) : Acc W1 B0 v3 (ls ++ [x]) (w3.setCell ⟨B0, 0, none⟩ v3) := by
  obtain ⟨hc, hf⟩ := h.ptr hb hg
  have hB : B0 < W.heap.size := Nat.lt_of_lt_of_le h.lt h.size
  refine ⟨World.cell?_setCell_same _ _ _ hc, (World.frozen?_setCell _ _ _ _).trans hf, ownsRow_setCell_below ?_ h.lt _, ?_, h.lt⟩
  · rw [fl_app, fl_one, List.length_append]; exact hown
  · refine ⟨hg.os.trans (hb.os.trans h.grown.os), hg.tape.trans (hb.tape.trans h.grown.tape), hg.output.trans (hb.output.trans h.grown.output), ?_, fun k hk hn => ?_⟩
    · have := h.size; have := hb.size; have := hg.size; simp; omega
    · have hk2 : k < W.heap.size := Nat.lt_of_lt_of_le hk h.size
      rw [Below.heap_setCell _ _ _ _ (by show k ≠ B0; simpa using hn), hg.block k (Nat.lt_of_lt_of_le hk2 hb.size) (fun e => by have := own_base h.own e.symm; omega), hb.block k hk2]
      exact h.grown.block k hk hn
theorem both_alloc {W : World} {B0 b o : Nat} {v : Value} {x : Chg} (hc : W.cell? ⟨B0, 0, none⟩ = some v) (hat : CAt b o x W) (ob : Obj) : (W.alloc ob).drew.cell? ⟨B0, 0, none⟩ = some v ∧ CAt b o x (W.alloc ob).drew :=
  have hb : Below W.heap.size W (W.alloc ob).drew := ((Below.refl _ _).alloc (Nat.le_refl _) ob).drew
  ⟨(hb.cell (p := ⟨B0, 0, none⟩) (World.block_lt_of_cell? W _ hc)).trans hc, hat.below hb hat.lt⟩
theorem below_ad (W : World) (ob : Obj) : Below W.heap.size W (W.alloc ob).drew := ((Below.refl _ _).alloc (Nat.le_refl _) ob).drew
/-- A key that is gone. -/
@[reducible] def goneC (key : Int) : Chg := ⟨key, true, 0, 0, 0, ⟨#[]⟩⟩

set_option maxRecDepth 100000 in
set_option maxHeartbeats 1000000 in
theorem compose_y (W1 : World) (B0 : Nat) (v p : Value) (ls : List Chg) (W : World) (h : Acc W1 B0 v ls W) (b1 o1 : Nat) (y : Chg) (haty : CAt b1 o1 y W)  (hl : ls.length ≤ 1000000000000) :
    Calls Try.prog 74 #[p, .pointer (some ⟨b1, o1, none⟩), .pointer (some ⟨B0, 0, none⟩)] W fun e W' => e = .returned (.tuple #[]) ∧ ∃ v', Acc W1 B0 v' (ls ++ [y]) W' := by
  obtain ⟨i0, hi, hz0, hz1, hz2⟩ := info_ch
  have HA := Lib.hid h
  have hc := h.cell
  obtain ⟨y0, y1, y2, y3, y4, y5⟩ := id haty
  have hsz := h.size
  have hc2 : (W.alloc (.cells #[.int .i64 y.key, .bool y.g, .int .u8 y.k, .int .i64 y.n, .int .u64 y.f, .string y.s] 50)).drew.cell? ⟨B0, 0, none⟩ = some v := (both_alloc hc haty _).1
  clear h haty
  go_enter Try.func74, Try.ntmps74
  go_wp2
  go_region_law
    ((refine step_append_lies _ (by rfl) (.tmp 8) (.tmp 12) 23 (by rfl) W1.heap.size 50 i0 (cv noChg) 6 56 Try.underlying23 hi hz0 hz1 hz2 (by rfl) (by decide) v ls.length (fl chC ls) (by rfl) (owns_below HA.out.own (below_ad W _)) ⟨W.heap.size, 0, none⟩ 1 1 (cc y) (by rfl) (by rfl) (World.news_of_block (heap_alloc_new _ _)) (cc_one y) (by decide) (by unfold maxLen; omega) (by omega) (by simp; omega) _ rfl ?_; intro g cap w3 hown3 hgrow3 hat3 hlt3; obtain ⟨hwc, hwf⟩ := HA.out.ptr (below_ad W _) hgrow3))
  all_goals (go_end0; exact ⟨rfl, _, HA.out.push (below_ad W _) hgrow3 hown3⟩)

set_option maxRecDepth 100000 in
set_option maxHeartbeats 1000000 in
theorem compose_x (W1 : World) (B0 : Nat) (v : Value) (ls : List Chg) (W : World) (h : Acc W1 B0 v ls W) (bx ox : Nat) (x : Chg) (hatx : CAt bx ox x W)  (hl : ls.length ≤ 1000000000000) :
    Calls Try.prog 74 #[.pointer (some ⟨bx, ox, none⟩), .pointer none, .pointer (some ⟨B0, 0, none⟩)] W fun e W' => e = .returned (.tuple #[]) ∧ ∃ v', Acc W1 B0 v' (ls ++ [x]) W' := by
  obtain ⟨i0, hi, hz0, hz1, hz2⟩ := info_ch
  have HA := Lib.hid h
  have hc := h.cell
  obtain ⟨x0, x1, x2, x3, x4, x5⟩ := id hatx
  have hsz := h.size
  have hc2 : (W.alloc (.cells #[.int .i64 x.key, .bool x.g, .int .u8 x.k, .int .i64 x.n, .int .u64 x.f, .string x.s] 50)).drew.cell? ⟨B0, 0, none⟩ = some v := (both_alloc hc hatx _).1
  clear h hatx
  go_enter Try.func74, Try.ntmps74
  go_wp2
  go_region_law
    ((refine step_append_lies _ (by rfl) (.tmp 8) (.tmp 12) 23 (by rfl) W1.heap.size 50 i0 (cv noChg) 6 56 Try.underlying23 hi hz0 hz1 hz2 (by rfl) (by decide) v ls.length (fl chC ls) (by rfl) (owns_below HA.out.own (below_ad W _)) ⟨W.heap.size, 0, none⟩ 1 1 (cc x) (by rfl) (by rfl) (World.news_of_block (heap_alloc_new _ _)) (cc_one x) (by decide) (by unfold maxLen; omega) (by omega) (by simp; omega) _ rfl ?_; intro g cap w3 hown3 hgrow3 hat3 hlt3; obtain ⟨hwc, hwf⟩ := HA.out.ptr (below_ad W _) hgrow3))
  all_goals (go_end0; exact ⟨rfl, _, HA.out.push (below_ad W _) hgrow3 hown3⟩)

end Go.Proofs.Yteodfbkfpboehaa

/- C4: Compose, Less; what Diff does with two rows -/
namespace Go.Proofs.Yteodfbkfpboehaa
open Go.RowKit Go.Shelf
set_option linter.unusedVariables false

def putC : Option Chg × Option Chg → List Chg
  | (_, some y) => [y]
  | (some x, none) => [x]
  | (none, none) => []
def putD : Option Chg × Option Chg → List Chg
  | (some x, none) => [goneC x.key]
  | (none, some y) => [y]
  | (some x, some y) => if x = y then [] else [y]
  | (none, none) => []
theorem put_len (f : Option Chg × Option Chg → List Chg) (hf : ∀ p, (f p).length ≤ 1) : ∀ T : Told, (T.flatMap f).length ≤ T.length
  | [] => by simp
  | p :: T => by have := put_len f hf T; have := hf p; simp only [List.flatMap_cons, List.length_append, List.length_cons]; omega
theorem putC_one (p : Option Chg × Option Chg) : (putC p).length ≤ 1 := by rcases p with ⟨_ | _, _ | _⟩ <;> simp [putC]
theorem told_one (f : Option Chg × Option Chg → List Chg) (T : Told) (p : Option Chg × Option Chg) : (T ++ [p]).flatMap f = T.flatMap f ++ f p := by simp
theorem sbs_len : ∀ (n : Nat) (l r : List Chg), l.length + r.length ≤ n → (sbs l r).length ≤ n
  | n, [], [], _ => by rw [sbs_nn]; simp
  | 0, x :: l, r, h => by simp at h
  | 0, [], y :: r, h => by simp at h
  | n + 1, x :: l, [], h => by rw [sbs_cn]; have := sbs_len n l [] (by simp at h ⊢; omega); simp; omega
  | n + 1, [], y :: r, h => by rw [sbs_nc]; have := sbs_len n [] r (by simp at h ⊢; omega); simp; omega
  | n + 1, x :: l, y :: r, h => by
    by_cases h1 : x.key < y.key
    · rw [sbs_lt h1]; have := sbs_len n l (y :: r) (by simp at h ⊢; omega); simp; omega
    · by_cases h2 : y.key < x.key
      · rw [sbs_gt h2]; have := sbs_len n (x :: l) r (by simp at h ⊢; omega); simp; omega
      · rw [sbs_eq h1 h2]; have := sbs_len n l r (by simp at h ⊢; omega); simp; omega

/-- A row that does not lie in that block. -/
def OffC (B0 : Nat) (v : Value) (xs : List Chg) : Prop := ∀ b o n c, v = .slice (some ⟨b, o, none⟩) n c → b ≠ B0 ∨ xs = []
theorem off_old {w : World} {v : Value} {xs : List Chg} (h : Crow w v xs) {B0 : Nat} (hB : w.heap.size ≤ B0) : OffC B0 v xs := by
  intro b o n c e
  subst e
  by_cases h0 : xs = []
  · exact .inr h0
  · obtain ⟨b', o', e, -, -, -, hb, -⟩ := Crow.opn h (List.length_pos_iff.2 h0)
    injection e with e
    injection e with e1 e2
    subst e1
    exact .inl (by omega)
/-- A list of changes that the call made. -/
@[reducible] def Own6 (w w' : World) (u : Value) (ls : List Chg) : Prop := w'.ownsRow w.heap.size 50 6 u ls.length (fl chC ls)
theorem own6_row {w w' : World} {u : Value} {ls : List Chg} (h : Own6 w w' u ls) : Crow w' u ls := (Row.of_owns h).1

theorem acc_start {W1 : World} {B0 : Nat} (hc : W1.cell? ⟨B0, 0, none⟩ = some (.slice none 0 0)) (hf : W1.frozen? ⟨B0, 0, none⟩ = false) : Acc W1 B0 (.slice none 0 0) [] W1 :=
  ⟨hc, hf, World.ownsRow_nil _ _ _ _, ⟨rfl, rfl, rfl, Nat.le_refl _, fun _ _ _ => rfl⟩, World.block_lt_of_cell? _ _ hc⟩

theorem pays_compose {W1 : World} {B0 : Nat} {v1 v2 : Value} {xs ys : List Chg} (h1 : Crow W1 v1 xs) (h2 : Crow W1 v2 ys) (n1 : OffC B0 v1 xs) (n2 : OffC B0 v2 ys) (hl : xs.length + ys.length ≤ 1000000000000) :
    Pays 74 #[.pointer (some ⟨B0, 0, none⟩)] (fun T W => ∃ v, Acc W1 B0 v (T.flatMap putC) W) v1 v2 xs ys := by
  refine ⟨enters_of Try.func74 (by kernel_rfl) rfl, fun T W ⟨v, h⟩ => h.row h1 n1, fun T W ⟨v, h⟩ => h.row h2 n2, fun T W n ⟨v, h⟩ => ⟨v, h.drewN n⟩, ?_⟩
  intro T x y p q W ⟨v, h⟩ ho hlt hp hq
  have hlen := put_len putC putC_one T
  rw [told_one]
  cases y with
  | some y =>
    obtain ⟨b, o, rfl, hat⟩ := hq
    exact compose_y W1 B0 v p _ W h b o y hat (by omega)
  | none =>
    obtain rfl : q = .pointer none := hq
    cases x with
    | none => exact absurd ho (by simp [One])
    | some x =>
      obtain ⟨b, o, rfl, hat⟩ := hp
      exact compose_x W1 B0 v _ W h b o x hat (by omega)
def comp (xs ys : List Chg) : List Chg := (sbs xs ys).flatMap putC
def dif (xs ys : List Chg) : List Chg := (sbs xs ys).flatMap putD
theorem comp_len (xs ys : List Chg) : (comp xs ys).length ≤ xs.length + ys.length := Nat.le_trans (put_len putC putC_one _) (sbs_len _ _ _ (Nat.le_refl _))
/-- The cell of its own, in which a call has its list. -/
theorem nilcell_new (w : World) (t : TypeId) : (w.alloc (.cells #[.slice none 0 0] t)).cell? ⟨w.heap.size, 0, none⟩ = some (.slice none 0 0) := by
  rw [cell_of_row _ w.heap.size _ _ t (0, 0) (heap_alloc_new w _)]; rfl
theorem frozen_new (w : World) (t : TypeId) : (w.alloc (.cells #[.slice none 0 0] t)).frozen? ⟨w.heap.size, 0, none⟩ = false := by
  unfold World.frozen?
  rw [show (w.alloc (.cells #[.slice none 0 0] t)).heap[w.heap.size]? = _ from heap_alloc_new w _]
  rfl
theorem acc_end {w W1 w' : World} {v : Value} {ls : List Chg} (h : Acc W1 w.heap.size v ls w') (hb : Below w.heap.size w W1) : Own6 w w' v ls ∧ Below w.heap.size w w' :=
  ⟨owns_mono h.own hb.size, ⟨h.grown.os.trans hb.os, h.grown.tape.trans hb.tape, h.grown.output.trans hb.output, Nat.le_trans hb.size h.grown.size, fun k hk => (h.grown.block k (Nat.lt_of_lt_of_le hk hb.size) (by simp; omega)).trans (hb.block k hk)⟩⟩

set_option maxRecDepth 100000 in
theorem compose_any (v1 v2 : Value) (xs ys : List Chg) (w : World) (h1 : Crow w v1 xs) (h2 : Crow w v2 ys) (hl : xs.length + ys.length ≤ 1000000000000) :
    Calls Try.prog 49 #[v1, v2] w fun e w' => ∃ u, e = .returned u ∧ Own6 w w' u (comp xs ys) ∧ Below w.heap.size w w' := by
  have hb : Below w.heap.size w (w.alloc (.cells #[.slice none 0 0] 23)) := (Below.refl _ _).alloc (Nat.le_refl _) _
  have HS := Lib.hid (side_any _ _ v1 v2 xs ys _ (pays_compose (h1.below hb (Nat.le_refl _)) (h2.below hb (Nat.le_refl _)) (off_old h1 (Nat.le_refl _)) (off_old h2 (Nat.le_refl _)) hl) _ ⟨_, acc_start (nilcell_new w _) (frozen_new w _)⟩)
  have HB := Lib.hid hb
  clear h1 h2 hb
  go_enter Try.func49, Try.ntmps49
  go_wp2_with (go_at_call 73; refine HS.out.mono ?_; rintro e w1 ⟨rfl, v, hA⟩; have hc := hA.cell)
  go_ret
  exact ⟨_, rfl, acc_end hA HB.out⟩
end Go.Proofs.Yteodfbkfpboehaa

/- C5: a set as a patch, a patch as a set; Diff, Apply, Invert -/
namespace Go.Proofs.Yteodfbkfpboehaa
open Go.RowKit
set_option linter.unusedVariables false

theorem crow_new0 (w : World) (a : Chg) (t : TypeId) : Crow (w.alloc (.cells (cca a) t)) (.slice (some ⟨w.heap.size, 0, none⟩) 1 1) [a] := crow_one w a t
theorem crow_new1 (w : World) (o : Obj) (a : Chg) (t : TypeId) : Crow ((w.alloc o).alloc (.cells (cca a) t)) (.slice (some ⟨w.heap.size + 1, 0, none⟩) 1 1) [a] := by
  have h := crow_new0 (w.alloc o) a t
  simp only [World.size_alloc] at h
  exact h
def Grows6 (w : World) (ls : List Chg) (v : Value) (wr : World) : Prop := Own6 w wr v ls ∧ Below w.heap.size w wr
theorem grows6_more {w wr w2 w3 : World} {ls : List Chg} {x : Chg} {v v3 : Value} (h : Grows6 w ls v wr) (hb : Below wr.heap.size wr w2)
    (ho : w3.ownsRow w.heap.size 50 6 v3 (ls.length + 1) (fl chC ls ++ fl chC [x])) (hg : w2.grownBy w3 v.ownBlock) : Grows6 w (ls ++ [x]) v3 w3 := by
  obtain ⟨h1, h2⟩ := h
  refine ⟨?_, (below_add h2 hb h2.size).grown hg (below_add h2 hb h2.size).size (fun j hj => own_base h1 hj)⟩
  unfold Own6
  rw [fl_app, List.length_append]
  exact ho
theorem grows6_nil (w W : World) (h : Below w.heap.size w W) : Grows6 w [] (.slice none 0 0) W := ⟨World.ownsRow_nil _ _ _ _, h⟩

theorem tsnoc {α : Type} {xs : List α} {k : Nat} (h : k < xs.length) : xs.take (k + 1) = xs.take k ++ [xs[k]] := List.take_succ_eq_append_getElem h
theorem tend {α : Type} (xs : List α) : xs.take xs.length = xs := List.take_of_length_le (Nat.le_refl _)
def chs (xs : List Att) : List Chg := xs.map toC
def ats (xs : List Chg) : List Att := (xs.filter fun c => !c.g).map toA
theorem chs_snoc {xs : List Att} {k : Nat} (h : k < xs.length) : chs (xs.take (k + 1)) = chs (xs.take k) ++ [toC xs[k]] := by unfold chs; rw [tsnoc h, List.map_append]; rfl
theorem chs_len (xs : List Att) : (chs xs).length = xs.length := by simp [chs]
theorem ats_len (xs : List Chg) : (ats xs).length ≤ xs.length := by unfold ats; rw [List.length_map]; exact List.length_filter_le _ _
theorem ats_yes {xs : List Chg} {k : Nat} (h : k < xs.length) (hg : xs[k].g = false) : ats (xs.take (k + 1)) = ats (xs.take k) ++ [toA xs[k]] := by unfold ats; rw [tsnoc h, List.filter_append, List.map_append]; simp [hg]
theorem ats_no {xs : List Chg} {k : Nat} (h : k < xs.length) (hg : xs[k].g = true) : ats (xs.take (k + 1)) = ats (xs.take k) := by unfold ats; rw [tsnoc h, List.filter_append, List.map_append]; simp [hg]

set_option maxRecDepth 100000 in
set_option maxHeartbeats 1000000 in
theorem changes_any (v : Value) (xs : List Att) (w : World) (hv : Arow w v xs) (hl : xs.length ≤ 1000000000) :
    Calls Try.prog 50 #[v] w fun e w' => ∃ u, e = .returned u ∧ Own6 w w' u (chs xs) ∧ Below w.heap.size w w' := by
  obtain ⟨i0, hi, hz0, hz1, hz2⟩ := info_ch
  obtain ⟨a1, cap1, rfl⟩ := hv.shape
  by_cases h0 : 0 < xs.length
  · obtain ⟨b1, o1, rfl, -, -, -, hbl, hat⟩ := Arow.opn hv h0
    have HAT := Lib.hid hat
    clear hv hat
    go_enter Try.func50, Try.ntmps50
    go_wp2
    go_loopw [3, 8] (fun s3 s8 wr => ∃ k : Nat, k ≤ xs.length ∧ s8 = .int .i64 k ∧ Grows6 w (chs (xs.take k)) s3 wr) (fun _ s8 _ => xs.length - (intOf s8).toNat)
    case atStart => exact ⟨0, Nat.zero_le _, rfl, grows6_nil _ _ (Below.refl _ _)⟩
    case round =>
      obtain ⟨k, hk, rfl, hR⟩ := hrel
      by_cases hlt : k < xs.length
      · obtain ⟨c0, c1, c2, c3, c4⟩ := (HAT.out k hlt).below hR.2 hbl
        have hs := chs_snoc hlt
        have hll : (chs (xs.take k)).length ≤ 1000000000 := by rw [chs_len, List.length_take]; omega
        have hsz := hR.2.size
        have HS := Lib.hid hs
        have HR := Lib.hid hR
        clear hR hs
        generalize xs[k] = x at *
        obtain ⟨x1, x2, x3, x4, x5⟩ := x
        simp only at c0 c1 c2 c3 c4
        generalize chs (xs.take k) = ls at *
        have hE : Below wr.heap.size wr (wr.alloc (.cells #[.int .i64 x1, .int .u8 x2, .int .i64 x3, .int .u64 x4, .string x5] 77)) := (Below.refl _ _).alloc (Nat.le_refl _) _
        go_wp2_with (at_builtin; go_loud (refine wpList_append_row (C := chC) rfl (.tmp 12) (.tmp 18) 23 rfl w.heap.size 50 i0 (cv noChg) 56 Try.underlying23 hi hz0 hz1 hz2 rfl _ _ _ rfl (owns_below HR.out.1 (hE.alloc hE.size _)) _ [toC ⟨x1, x2, x3, x4, x5⟩] rfl (crow_new1 wr _ (toC ⟨x1, x2, x3, x4, x5⟩) 50) (by unfold maxLen; simp; omega) (by simp; omega) (by simp; omega) ?_); intro v3 w3 hown3 hgrow3)
        have HC := Lib.hid (grows6_more HR.out (hE.alloc hE.size _) hown3 hgrow3)
        go_roundw
        case rel => exact ⟨k + 1, by omega, by go_num, by rw [HS.out]; exact HC.out⟩
        case measure => simp [intOf]; omega
      · obtain rfl : k = xs.length := by omega
        have HR := Lib.hid hR
        clear hR
        go_wp2
        go_ret
        have h := HR.out
        rw [tend] at h
        exact ⟨_, rfl, h⟩
  · obtain rfl : xs = [] := List.eq_nil_of_length_eq_zero (by omega)
    clear hv h0 hl
    go_enter Try.func50, Try.ntmps50
    go_wp2
    refine wp_loop_rounds 1 ?_
    rw [rounds_succ]
    go_wp2
    go_ret
    exact ⟨_, rfl, World.ownsRow_nil _ _ _ _, Below.refl _ _⟩

set_option maxRecDepth 100000 in
set_option maxHeartbeats 1000000 in
theorem attributes_any (v : Value) (xs : List Chg) (w : World) (hv : Crow w v xs) (hl : xs.length ≤ 1000000000) :
    Calls Try.prog 48 #[v] w fun e w' => ∃ u, e = .returned u ∧ Own5 w w' u (ats xs) ∧ Below w.heap.size w w' := by
  obtain ⟨i0, hi, hz0, hz1, hz2⟩ := info_at
  obtain ⟨a1, cap1, rfl⟩ := hv.shape
  by_cases h0 : 0 < xs.length
  · obtain ⟨b1, o1, rfl, -, -, -, hbl, hat⟩ := Crow.opn hv h0
    have HAT := Lib.hid hat
    clear hv hat
    go_enter Try.func48, Try.ntmps48
    go_wp2
    go_loopw [3, 8] (fun s3 s8 wr => ∃ k : Nat, k ≤ xs.length ∧ s8 = .int .i64 k ∧ Grows w (ats (xs.take k)) s3 wr) (fun _ s8 _ => xs.length - (intOf s8).toNat)
    case atStart => exact ⟨0, Nat.zero_le _, rfl, own5_nil _ _, Below.refl _ _⟩
    case round =>
      obtain ⟨k, hk, rfl, hR⟩ := hrel
      by_cases hlt : k < xs.length
      · obtain ⟨c0, c1, c2, c3, c4, c5⟩ := (HAT.out k hlt).below hR.2 hbl
        have hY := fun h => ats_yes hlt h
        have hN := fun h => ats_no hlt h
        have hll : (ats (xs.take k)).length ≤ 1000000000 := by have := ats_len (xs.take k); rw [List.length_take] at this; omega
        have hsz := hR.2.size
        have HR := Lib.hid hR
        clear hR
        generalize xs[k] = x at *
        obtain ⟨x1, x0, x2, x3, x4, x5⟩ := x
        simp only at c0 c1 c2 c3 c4 c5 hY hN
        have hE : Below wr.heap.size wr (wr.alloc (.cells #[.int .i64 x1, .bool x0, .int .u8 x2, .int .i64 x3, .int .u64 x4, .string x5] 50)) := (Below.refl _ _).alloc (Nat.le_refl _) _
        cases x0
        · have HS := Lib.hid (hY rfl)
          clear hY hN
          generalize ats (xs.take k) = ls at *
          go_wp2_with (at_builtin; go_loud (refine wpList_append_row (C := attC) rfl (.tmp 15) (.tmp 21) 33 rfl w.heap.size 77 i0 (av noAtt) 48 Try.underlying33 hi hz0 hz1 hz2 rfl _ _ _ rfl (owns_below HR.out.1 (hE.alloc hE.size _)) _ [⟨x1, x2, x3, x4, x5⟩] rfl (row_new1 wr _ ⟨x1, x2, x3, x4, x5⟩ 77) (by unfold maxLen; simp; omega) (by simp; omega) (by simp; omega) ?_); intro v3 w3 hown3 hgrow3)
          have HC := Lib.hid (grows_more HR.out (hE.alloc hE.size _) hown3 hgrow3)
          go_roundw
          case rel => exact ⟨k + 1, by omega, by go_num, by rw [HS.out]; exact HC.out⟩
          case measure => simp [intOf]; omega
        · have HS := Lib.hid (hN rfl)
          clear hY hN
          have HC := Lib.hid (grows_stay HR.out hE)
          go_wp2
          go_roundw
          case rel => exact ⟨k + 1, by omega, by go_num, by rw [HS.out]; exact HC.out⟩
          case measure => simp [intOf]; omega
      · obtain rfl : k = xs.length := by omega
        have HR := Lib.hid hR
        clear hR
        go_wp2
        go_ret
        have h := HR.out
        rw [tend] at h
        exact ⟨_, rfl, h⟩
  · obtain rfl : xs = [] := List.eq_nil_of_length_eq_zero (by omega)
    clear hv h0 hl
    go_enter Try.func48, Try.ntmps48
    go_wp2
    refine wp_loop_rounds 1 ?_
    rw [rounds_succ]
    go_wp2
    go_ret
    exact ⟨_, rfl, own5_nil _ _, Below.refl _ _⟩

def app (xs : List Att) (p : List Chg) : List Att := ats (comp (chs xs) p)
def diff6 (a b : List Att) : List Chg := dif (chs a) (chs b)
def inv (a : List Att) (p : List Chg) : List Chg := diff6 (app a p) a
theorem app_len (xs : List Att) (p : List Chg) : (app xs p).length ≤ xs.length + p.length := by
  have := ats_len (comp (chs xs) p)
  have := comp_len (chs xs) p
  rw [chs_len] at this
  unfold app
  omega
set_option maxRecDepth 100000 in
theorem apply_any (v1 v2 : Value) (xs : List Att) (p : List Chg) (w : World) (h1 : Arow w v1 xs) (h2 : Crow w v2 p) (hl : xs.length + p.length ≤ 1000000000) :
    Calls Try.prog 32 #[v1, v2] w fun e w' => ∃ u, e = .returned u ∧ Own5 w w' u (app xs p) ∧ Below w.heap.size w w' := by
  have HC := Lib.hid (changes_any v1 xs w h1 (by omega))
  have HM := Lib.hid (fun u w' (h : Crow w' u (chs xs)) (h2 : Crow w' v2 p) => compose_any u v2 (chs xs) p w' h h2 (by rw [chs_len]; omega))
  have HA := Lib.hid (fun u w' (h : Crow w' u (comp (chs xs) p)) => attributes_any u (comp (chs xs) p) w' h (by have := comp_len (chs xs) p; rw [chs_len] at this; omega))
  have H2 := Lib.hid h2
  clear h1 h2
  go_enter Try.func32, Try.ntmps32
  go_wp2_with (first
    | (go_at_call 50; refine HC.out.mono ?_; rintro e w1 ⟨u1, rfl, ho1, hb1⟩)
    | (go_at_call 49; refine (HM.out u1 _ (own6_row ho1) (H2.out.below hb1 (Nat.le_refl _))).mono ?_; rintro e w2 ⟨u2, rfl, ho2, hb2⟩)
    | (go_at_call 48; refine (HA.out u2 _ (own6_row ho2)).mono ?_; rintro e w3 ⟨u3, rfl, ho3, hb3⟩))
  go_ret
  have hb12 := below_add hb1 hb2 hb1.size
  exact ⟨_, rfl, owns_mono ho3 hb12.size, below_add hb12 hb3 hb12.size⟩

end Go.Proofs.Yteodfbkfpboehaa

/- C12: great -/
namespace Go.Proofs.Yteodfbkfpboehaa
open Go.RowKit
set_option linter.unusedVariables false

/-- How much there is. -/
def sizeC (p : List Chg) : Nat := (p.map fun c => c.s.size).sum
def totC (p : List Chg) : Nat := p.length + sizeC p
end Go.Proofs.Yteodfbkfpboehaa

/- C14: changes and attributes that came in, and what they weigh -/
namespace Go.Proofs.Yteodfbkfpboehaa
open Go.RowKit Go.ChangeShapes Go.WideShapes Go.Deep
set_option linter.unusedVariables false

section
variable {H : Type} {enc : TypeId × Value → H} {w : World} {base : Nat} {spare : Nat → Bool} {held : Bool}

/-- The datum of a change, of an attribute. -/
def vD (k n f : Int) (s : ByteArray) : DataW H := .agg [.lit (.int .u8 k), .lit (.int .i64 n), .lit (.int .u64 f), .lit (.string s.data.toList)]
def chD (a : Chg) : DataW H := .agg [.lit (.int .i64 a.key), .lit (.bool a.g), vD a.k a.n a.f a.s]
def atD (a : Att) : DataW H := .agg [.lit (.int .i64 a.key), vD a.k a.n a.f a.s]

theorem ch_fields : Try.prog.underlying 50 = some (.struct (Try.prog.fieldsOf 50)) := by kernel_rfl
theorem ch_cells : Try.prog.cellsOf 50 = 6 := by kernel_rfl
theorem ch_types : (Try.prog.fieldsOf 50).map (fun f => (f.type, f.offset)) = #[(3, 0), (4, 1), (48, 2)] := by kernel_rfl
theorem ch_size : (Try.prog.fieldsOf 50).size = 3 := by kernel_rfl
theorem bool_cells6 : Try.prog.cellsOf 4 = 1 := by kernel_rfl
theorem ch_bytes : Try.prog.bytesOf 50 = 56 := by kernel_rfl
set_option maxRecDepth 100000 in
theorem open_val6 {n : Nat} {cs : List Value} {y : DataW H × List MemPlace} (h : DataW.trod enc Try.prog w base spare held n 48 cs = some y) :
    ∃ (k n' f : Int) (s : ByteArray), (Lit.int .u8 k).wf = true ∧ (Lit.int .i64 n').wf = true ∧ (Lit.int .u64 f).wf = true ∧ s.size ≤ maxLen ∧ cs = [.int .u8 k, .int .i64 n', .int .u64 f, .string s] ∧ y.1 = vD k n' f s := by
  obtain ⟨ys, m, -, hy, hlen, hys, hf⟩ := DataW.trod_struct value_fields5 h
  rw [value_cells5] at hlen
  rw [value_size5] at hys
  have hj : ∀ (j : Nat) (t : TypeId), (#[5, 2, 46, 9] : Array TypeId)[j]? = some t → DataW.trod enc Try.prog w base spare held m t ((cs.drop j).take 1) = ys[j]? := by
    intro j t hjt
    rw [← value_types5, Array.getElem?_map, Option.map_eq_some_iff] at hjt
    obtain ⟨f, hfj, rfl⟩ := hjt
    obtain ⟨ho, hk⟩ := hone_of value_one5 j f hfj
    have := hf j f hfj
    rwa [ho, hk] at this
  clear hf h
  match cs, hlen with
  | [c0, c1, c2, c3], _ =>
    match ys, hys with
    | [y0, y1, y2, y3], _ =>
      have h0 : DataW.trod enc Try.prog w base spare held m 5 [c0] = some y0 := hj 0 _ rfl
      have h1 : DataW.trod enc Try.prog w base spare held m 2 [c1] = some y1 := hj 1 _ rfl
      have h2 : DataW.trod enc Try.prog w base spare held m 46 [c2] = some y2 := hj 2 _ rfl
      have h3 : DataW.trod enc Try.prog w base spare held m 9 [c3] = some y3 := hj 3 _ rfl
      obtain ⟨a0, e0, rfl, w0⟩ := DataW.trod_int Try.underlying5 h0
      obtain ⟨a1, e1, rfl, w1⟩ := DataW.trod_int Try.underlying2 h1
      obtain ⟨a2, e2, rfl, w2⟩ := DataW.trod_int Try.underlying46 h2
      obtain ⟨a3, e3, rfl, w3⟩ := DataW.trod_string Try.underlying9 h3
      simp only [List.cons.injEq, and_true] at e0 e1 e2 e3
      subst e0 e1 e2 e3
      exact ⟨a0, a1, a2, a3, w0, w1, w2, w3, rfl, by rw [hy]; rfl⟩

set_option maxRecDepth 100000 in
theorem open_att6 {n : Nat} {cs : List Value} {y : DataW H × List MemPlace} (h : DataW.trod enc Try.prog w base spare held n 77 cs = some y) : ∃ a : Att, AttW a ∧ cs = ac a ∧ y.1 = atD a := by
  obtain ⟨ys, m, -, hy, hlen, hys, hf⟩ := DataW.trod_struct att_fields h
  rw [att_cells] at hlen
  rw [att_size] at hys
  have hj : ∀ (j : Nat) (t : TypeId) (o : Nat), (#[(3, 0), (48, 1)] : Array (TypeId × Nat))[j]? = some (t, o) → DataW.trod enc Try.prog w base spare held m t ((cs.drop o).take (Try.prog.cellsOf t)) = ys[j]? := by
    intro j t o hjt
    rw [← att_types, Array.getElem?_map, Option.map_eq_some_iff] at hjt
    obtain ⟨f, hfj, e⟩ := hjt
    simp only [Prod.mk.injEq] at e
    obtain ⟨rfl, rfl⟩ := e
    exact hf j f hfj
  clear hf h
  match cs, hlen with
  | [c0, c1, c2, c3, c4], _ =>
    match ys, hys with
    | [y0, y1], _ =>
      have h0 := hj 0 3 0 rfl
      have h1 := hj 1 48 1 rfl
      rw [int_cells5] at h0
      rw [value_cells5] at h1
      have h0' : DataW.trod enc Try.prog w base spare held m 3 [c0] = some y0 := h0
      have h1' : DataW.trod enc Try.prog w base spare held m 48 [c1, c2, c3, c4] = some y1 := h1
      obtain ⟨a0, e0, rfl, w0⟩ := DataW.trod_int Try.underlying3 h0'
      obtain ⟨k, n', f, s, w1, w2, w3, w4, e1, hd⟩ := open_val6 h1'
      simp only [List.cons.injEq, and_true] at e0 e1
      obtain ⟨rfl, rfl, rfl, rfl⟩ := e1
      subst e0
      exact ⟨⟨a0, k, n', f, s⟩, ⟨w0, w1, w2, w3, w4⟩, rfl, by rw [hy]; simp [atD, hd]⟩

set_option maxRecDepth 100000 in
theorem open_chg6 {n : Nat} {cs : List Value} {y : DataW H × List MemPlace} (h : DataW.trod enc Try.prog w base spare held n 50 cs = some y) : ∃ a : Chg, ChgW a ∧ cs = cc a ∧ y.1 = chD a := by
  obtain ⟨ys, m, -, hy, hlen, hys, hf⟩ := DataW.trod_struct ch_fields h
  rw [ch_cells] at hlen
  rw [ch_size] at hys
  have hj : ∀ (j : Nat) (t : TypeId) (o : Nat), (#[(3, 0), (4, 1), (48, 2)] : Array (TypeId × Nat))[j]? = some (t, o) → DataW.trod enc Try.prog w base spare held m t ((cs.drop o).take (Try.prog.cellsOf t)) = ys[j]? := by
    intro j t o hjt
    rw [← ch_types, Array.getElem?_map, Option.map_eq_some_iff] at hjt
    obtain ⟨f, hfj, e⟩ := hjt
    simp only [Prod.mk.injEq] at e
    obtain ⟨rfl, rfl⟩ := e
    exact hf j f hfj
  clear hf h
  match cs, hlen with
  | [c0, cb, c1, c2, c3, c4], _ =>
    match ys, hys with
    | [y0, yb, y1], _ =>
      have h0 := hj 0 3 0 rfl
      have hb := hj 1 4 1 rfl
      have h1 := hj 2 48 2 rfl
      rw [int_cells5] at h0
      rw [bool_cells6] at hb
      rw [value_cells5] at h1
      have h0' : DataW.trod enc Try.prog w base spare held m 3 [c0] = some y0 := h0
      have hb' : DataW.trod enc Try.prog w base spare held m 4 [cb] = some yb := hb
      have h1' : DataW.trod enc Try.prog w base spare held m 48 [c1, c2, c3, c4] = some y1 := h1
      obtain ⟨a0, e0, rfl, w0⟩ := DataW.trod_int Try.underlying3 h0'
      obtain ⟨ab, eb, rfl⟩ := DataW.trod_bool Try.underlying4 hb'
      obtain ⟨k, n', f, s, w1, w2, w3, w4, e1, hd⟩ := open_val6 h1'
      simp only [List.cons.injEq, and_true] at e0 eb e1
      obtain ⟨rfl, rfl, rfl, rfl⟩ := e1
      subst e0 eb
      exact ⟨⟨a0, ab, k, n', f, s⟩, ⟨w0, w1, w2, w3, w4⟩, rfl, by rw [hy]; simp [chD, hd]⟩

set_option maxRecDepth 100000 in
/-- A slice that came in, of whatever lies as C says. -/
theorem open_rows {α : Type} (C : Cel α) (W : α → Prop) (D : α → DataW H) {t e : TypeId} (ht : Try.prog.underlying t = some (.slice e)) (hcell : Try.prog.cellsOf e = C.m)
    (hop : ∀ {n : Nat} {cs : List Value} {y : DataW H × List MemPlace}, DataW.trod enc Try.prog w base spare held n e cs = some y → ∃ a : α, W a ∧ cs = C.c a ∧ y.1 = D a)
    {n : Nat} {v : Value} {x : DataW H × List MemPlace} (h : DataW.trod enc Try.prog w base spare held n t [v] = some x) :
    ∃ xs : List α, Row C w v xs ∧ (∀ a ∈ xs, W a) ∧ (x.1 = .nil ∧ xs = [] ∨ ∃ sp, x.1 = .slice (xs.map D) sp) := by
  rcases open_slice ht h with ⟨hcs, hx⟩ | ⟨a, len, cap, m, n', Dt, Pl, hcs, -, hl, hm, hmm, hx, hi⟩
  · injection hcs with hv _
    subst hv
    exact ⟨[], Row.nil w, by simp, .inl ⟨by rw [hx], rfl⟩⟩
  · injection hcs with hv _
    subst hv
    have hlm : len ≤ m := by rw [hmm]; split <;> omega
    have hex : ∀ i, i < len → ∃ k : α, W k ∧ (∀ j u, (C.c k)[j]? = some u → w.cell? (a.add (i * C.m + j)) = some u) ∧ Dt i = D k := by
      intro i hil
      obtain ⟨cs', hc, ht⟩ := hi i (by omega)
      obtain ⟨k, hw, rfl, hd⟩ := hop ht
      rw [hcell] at hc
      obtain ⟨-, hcl, hat⟩ := World.cells?_some hc
      refine ⟨k, hw, fun j u hu => ?_, hd⟩
      have hj : j < C.m := by have := (List.getElem?_eq_some_iff.1 hu).1; rwa [C.len] at this
      have := hat j hj
      rw [hu, add_add] at this
      exact this
    have hex2 : ∀ i : Fin len, ∃ k : α, W k ∧ (∀ j u, (C.c k)[j]? = some u → w.cell? (a.add (i.1 * C.m + j)) = some u) ∧ Dt i.1 = D k := fun i => hex i.1 i.2
    obtain ⟨f, hf⟩ := Classical.axiomOfChoice hex2
    have hlen : (List.ofFn f).length = len := by simp
    refine ⟨List.ofFn f, ?_, fun k hk => ?_, .inr ⟨(List.range (m - len)).map fun j => Dt (len + j), ?_⟩⟩
    · by_cases h0 : len = 0
      · subst h0
        exact .inl ⟨some a, cap, rfl, by simp, hm, by simp⟩
      · obtain ⟨b, off, spot⟩ := a
        have hspot : spot = none := by
          have hp : 0 < (C.c (f ⟨0, by omega⟩)).length := by rw [C.len]; exact C.pos
          have := (hf ⟨0, by omega⟩).2.1 0 _ (List.getElem?_eq_getElem hp)
          simpa [Addr.add] using World.cell?_spot this
        subst hspot
        refine .inr ⟨b, off, cap, by rw [hlen], by omega, by omega, hm, fun j u hu => ?_⟩
        have hjl : j < len * C.m := by
          have := (List.getElem?_eq_some_iff.1 hu).1
          rwa [fl_len, hlen] at this
        have hd : j / C.m < len := Nat.div_lt_of_lt_mul (by rw [Nat.mul_comm]; exact hjl)
        have e1 : j / C.m * C.m + j % C.m = j := by rw [Nat.mul_comm]; exact Nat.div_add_mod j C.m
        have g := fl_get C (List.ofFn f) (j / C.m) (j % C.m) (by omega) (Nat.mod_lt _ C.pos)
        rw [e1, hu] at g
        have := (hf ⟨j / C.m, hd⟩).2.1 (j % C.m) u (by rw [g]; simp)
        rw [e1, Go.WideShapes.add_plain] at this
        exact this
    · obtain ⟨i, rfl⟩ := List.mem_ofFn.1 hk
      exact (hf i).1
    · rw [hx]
      show DataW.slice ((List.range len).map Dt) _ = DataW.slice _ _
      congr 1
      apply List.ext_getElem
      · simp
      · intro i h1 h2
        simp at h1
        simp [(hf ⟨i, h1⟩).2.2]

/-- What a slice of changes, of attributes, that came in is. -/
def InC (d : DataW H) (xs : List Chg) : Prop := d = .nil ∧ xs = [] ∨ ∃ sp, d = .slice (xs.map chD) sp
def InA (d : DataW H) (xs : List Att) : Prop := d = .nil ∧ xs = [] ∨ ∃ sp, d = .slice (xs.map atD) sp
set_option maxRecDepth 100000 in
theorem open_chs {n : Nat} {v : Value} {x : DataW H × List MemPlace} (h : DataW.trod enc Try.prog w base spare held n 23 [v] = some x) : ∃ xs, Crow w v xs ∧ (∀ a ∈ xs, ChgW a) ∧ InC x.1 xs :=
  open_rows chC ChgW chD Try.underlying23 ch_cells (fun h => open_chg6 h) h
set_option maxRecDepth 100000 in
theorem open_ats {n : Nat} {v : Value} {x : DataW H × List MemPlace} (h : DataW.trod enc Try.prog w base spare held n 33 [v] = some x) : ∃ xs, Arow w v xs ∧ (∀ a ∈ xs, AttW a) ∧ InA x.1 xs :=
  open_rows attC AttW atD Try.underlying33 att_cells (fun h => open_att6 h) h

set_option maxRecDepth 100000 in
/-- What they weigh: how many places, how long each text. -/
theorem sized_C {ts : List TypeId} {ds : List (DataW H)} (h : (DataW.weightsEach Try.prog ts ds).all (· ≤ reachBytes) = true) {j : Nat} {d : DataW H} {xs : List Chg} (hd : InC d xs) (ht : ts[j]? = some 23) (hj : ds[j]? = some d) :
    xs.length * 56 ≤ 140737488355328 ∧ ∀ c ∈ xs, c.s.size ≤ 140737488355328 := by
  have h2 := reachBytes_lt
  rcases hd with ⟨-, rfl⟩ | ⟨sp, rfl⟩
  · simp
  · have hu := Try.underlying23
    refine ⟨?_, fun c hc => ?_⟩
    · have := sized_slice h ht hj hu
      rw [ch_bytes, List.length_map] at this
      have h3 : xs.length * 56 ≤ (xs.length + sp.length) * 56 := Nat.mul_le_mul_right _ (by omega)
      omega
    · have hin : ∀ (l : List Chg), c ∈ l → c.s.data.toList.length ∈ DataW.weightsAll Try.prog 50 (l.map (chD (H := H))) := by
        intro l hl
        induction l with
        | nil => cases hl
        | cons x r ih =>
          simp only [List.map_cons, DataW.weightsAll, List.mem_append]
          rcases List.mem_cons.1 hl with rfl | hl
          · left
            simp [chD, vD, DataW.weights, DataW.weightsEach, Try.underlying50, Try.underlying48]
          · exact .inr (ih hl)
      have h4 := List.all_eq_true.1 h _ (DataW.weights_mem_each ht hj c.s.data.toList.length (by simp only [DataW.weights, hu, List.mem_cons, List.mem_append]; exact .inr (.inl (hin xs hc))))
      simp at h4
      omega

/-- What they are of bulk. -/
theorem bulk_C (xs : List Chg) : totC xs ≤ Rows.uptoBulkAll (xs.map (chD (H := H))) := by
  induction xs with
  | nil => simp [totC, sizeC, Rows.uptoBulkAll]
  | cons x r ih =>
    have e : totC (x :: r) = totC r + (1 + x.s.size) := by simp [totC, sizeC]; omega
    have e2 : x.s.data.toList.length = x.s.size := by rw [Array.length_toList]; rfl
    rw [e, List.map_cons, Rows.uptoBulkAll]
    simp only [chD, vD, Rows.uptoBulk, Rows.uptoBulkAll]
    omega
theorem in_bulk {d : DataW H} : ∀ {l : List (DataW H)}, d ∈ l → Rows.uptoBulk d ≤ Rows.uptoBulkAll l
  | x :: r, h => by
    rw [Rows.uptoBulkAll]
    rcases List.mem_cons.1 h with rfl | h
    · omega
    · have := in_bulk h; omega
theorem small_C {ds : List (DataW H)} (hk : Rows.uptoSmall H ds = true) {d : DataW H} {xs : List Chg} (hd : InC d xs) (hm : d ∈ ds) : totC xs ≤ 1048576 := by
  have h : Rows.uptoBulkAll ds ≤ 1048576 := of_decide_eq_true hk
  have h2 := in_bulk hm
  rcases hd with ⟨-, rfl⟩ | ⟨sp, rfl⟩
  · simp [totC, sizeC]
  · have := bulk_C (H := H) xs
    rw [Rows.uptoBulk] at h2
    omega
end
end Go.Proofs.Yteodfbkfpboehaa

/- C6: patches held against one another; rising; Clone, Copy -/
namespace Go.Proofs.Yteodfbkfpboehaa
open Go.RowKit
set_option linter.unusedVariables false

/-- Keys rise. -/
def RiseC (xs : List Chg) : Prop := xs.Pairwise (fun a b => a.key < b.key)
instance (xs : List Chg) : Decidable (RiseC xs) := by unfold RiseC; infer_instance
theorem crise_nil : RiseC [] := List.Pairwise.nil
theorem crise_step {xs : List Chg} {k : Nat} (h : k + 1 < xs.length) (hr : RiseC (xs.take (k + 1))) (hl : xs[k].key < xs[k + 1].key) : RiseC (xs.take (k + 1 + 1)) := by
  rw [tsnoc h]
  refine List.pairwise_append.2 ⟨hr, by simp, fun a ha b hb => ?_⟩
  simp at hb
  subst hb
  rw [tsnoc (by omega : k < xs.length)] at ha hr
  rcases List.mem_append.1 ha with ha | ha
  · have := (List.pairwise_append.1 hr).2.2 a ha xs[k] (by simp)
    omega
  · simp at ha; subst ha; exact hl
theorem crise_bad {xs : List Chg} {k : Nat} (h : k + 1 < xs.length) (hl : ¬ xs[k].key < xs[k + 1].key) : ¬ RiseC xs := fun hr =>
  hl (List.pairwise_iff_getElem.1 hr k (k + 1) (by omega) h (by omega))
theorem crise_end {xs : List Chg} (hr : RiseC (xs.take xs.length)) : RiseC xs := by rwa [List.take_of_length_le (Nat.le_refl _)] at hr
theorem crise_one {xs : List Chg} : RiseC (xs.take (0 + 1)) := by
  cases xs with
  | nil => exact crise_nil
  | cons x r => simp [RiseC]

set_option maxRecDepth 100000 in
theorem rising_any6 (v : Value) (xs : List Chg) (w : World) (h1 : Crow w v xs) :
    Calls Try.prog 20 #[v] w fun e w' => e = .returned (.bool (decide (RiseC xs))) ∧ ∃ q, w' = w.drewN q := by
  have hl1 := h1.len
  obtain ⟨a1, cap1, rfl⟩ := h1.shape
  by_cases h0 : 0 < xs.length
  · obtain ⟨b1, o1, rfl, -, -, -, -, hat1⟩ := Crow.opn h1 h0
    clear h1
    have H1 := Lib.hid hat1
    clear hat1
    go_enter Try.func20, Try.ntmps20
    go_wp2
    go_loopw [3] (fun i wr => ∃ k q : Nat, k + 1 ≤ xs.length ∧ i = .int .i64 ((k : Int) + 1) ∧ wr = w.drewN q ∧ Hid (RiseC (xs.take (k + 1)))) (fun i _ => xs.length - (intOf i).toNat)
    case atStart => exact ⟨0, 0, h0, rfl, rfl, Lib.hid crise_one⟩
    case round =>
      obtain ⟨k, q, hk, rfl, rfl, HP⟩ := hrel
      by_cases hlt : k + 1 < xs.length
      · obtain ⟨c0, -, -, -, -, -⟩ := H1.out k (by omega)
        obtain ⟨d0, -, -, -, -, -⟩ := H1.out (k + 1) hlt
        have hS := fun h => crise_step hlt HP.out h
        have hB := fun h => crise_bad hlt h
        generalize xs[k].key = x at *
        generalize xs[k + 1].key = y at *
        by_cases hxy : x < y
        · have HS := Lib.hid (hS hxy)
          have e1 : decide (y ≤ x) = false := by rw [decide_eq_false_iff_not]; omega
          clear hS hB hxy
          go_wp2
          go_quiet (fail)
          go_wp2
          go_roundw
          case rel => exact ⟨k + 1, q + nq, by omega, by go_num, by simp, HS⟩
          case measure => simp [intOf]; omega
        · have HS := Lib.hid (hB hxy)
          have e1 : decide (y ≤ x) = true := by rw [decide_eq_true_iff]; omega
          clear hS hB hxy
          go_wp2
          go_quiet (fail)
          go_wp2
          go_ret
          exact ⟨dec_no HS.out, q + nq, by simp⟩
      · have hkk : xs.length = k + 1 := by omega
        have HE := Lib.hid (crise_end (by rw [hkk]; exact HP.out))
        clear HP
        go_wp2
        go_ret
        exact ⟨dec_yes HE.out, _, rfl⟩
  · obtain rfl : xs = [] := List.eq_nil_of_length_eq_zero (by omega)
    clear h1 h0 hl1
    go_enter Try.func20, Try.ntmps20
    go_wp2
    refine wp_loop_rounds 1 ?_
    rw [rounds_succ]
    go_wp2
    go_ret
    exact ⟨rfl, 0, rfl⟩
end Go.Proofs.Yteodfbkfpboehaa

/- C9: May, the reference's Find -/
namespace Go.Proofs.Yteodfbkfpboehaa
open Go.RowKit
set_option linter.unusedVariables false

theorem ats_rise {xs : List Chg} (h : RiseC xs) : Rise (ats xs) := by
  unfold ats Rise
  rw [List.pairwise_map]
  exact (h.sublist List.filter_sublist)
end Go.Proofs.Yteodfbkfpboehaa

/- C10: the reference's Find -/
namespace Go.Proofs.Yteodfbkfpboehaa
open Go.RowKit
set_option linter.unusedVariables false

def getC (xs : List Chg) (key : Int) : Option Chg := xs.find? fun c => c.key == key
end Go.Proofs.Yteodfbkfpboehaa

/- C16: rows of rising keys are told by what they have of each key -/
namespace Go.Proofs.Yteodfbkfpboehaa
open Go.RowKit
set_option linter.unusedVariables false

theorem ext_gen {α : Type} (key : α → Int) : ∀ xs ys : List α, xs.Pairwise (fun a b => key a < key b) → ys.Pairwise (fun a b => key a < key b) → (∀ k, xs.find? (fun c => key c == k) = ys.find? (fun c => key c == k)) → xs = ys
  | [], [], _, _, _ => rfl
  | [], y :: s, _, _, h => by have := h (key y); simp at this
  | x :: r, [], _, _, h => by have := h (key x); simp at this
  | x :: r, y :: s, h1, h2, h => by
    obtain ⟨a1, a2⟩ := List.pairwise_cons.1 h1
    obtain ⟨b1, b2⟩ := List.pairwise_cons.1 h2
    have no : ∀ (l : List α) (k : Int), (∀ a ∈ l, k < key a) → l.find? (fun c => key c == k) = none := fun l k hl => by
      rw [List.find?_eq_none]
      intro a ha
      have := hl a ha
      simp
      omega
    have hx := h (key x)
    have hy := h (key y)
    simp only [List.find?_cons, beq_self_eq_true] at hx hy
    have hk : key x = key y := by
      by_cases q : key x = key y
      · exact q
      exfalso
      rcases Int.lt_or_gt_of_ne q with q | q
      · rw [show (key y == key x) = false by simp; omega, no s (key x) (fun a ha => by have := b1 a ha; omega)] at hx
        cases hx
      · rw [show (key x == key y) = false by simp; omega, no r (key y) (fun a ha => by have := a1 a ha; omega)] at hy
        cases hy
    rw [show (key y == key x) = true by simp [hk]] at hx
    injection hx with hx
    subst hx
    refine congrArg _ (ext_gen key r s a2 b2 fun k => ?_)
    have hk := h k
    simp only [List.find?_cons] at hk
    by_cases q : key x = k
    · subst q
      rw [no r _ a1, no s _ b1]
    · rw [show (key x == k) = false by simpa using q] at hk
      exact hk
theorem extA {xs ys : List Att} (h1 : Rise xs) (h2 : Rise ys) (h : ∀ k, getA xs k = getA ys k) : xs = ys := ext_gen Att.key xs ys h1 h2 h

theorem getC_nil (k : Int) : getC [] k = none := rfl
theorem getC_cons (x : Chg) (r : List Chg) (k : Int) : getC (x :: r) k = if x.key = k then some x else getC r k := by
  unfold getC
  rw [List.find?_cons]
  by_cases h : x.key = k
  · simp [h]
  · rw [if_neg h, show (x.key == k) = false by simpa using h]
theorem getC_no {l : List Chg} {k : Int} (h : ∀ c ∈ l, c.key ≠ k) : getC l k = none := by
  unfold getC
  rw [List.find?_eq_none]
  intro c hc
  simpa using h c hc
theorem getC_key {l : List Chg} {k : Int} {c : Chg} (h : getC l k = some c) : c ∈ l ∧ c.key = k := by
  unfold getC at h
  exact ⟨List.mem_of_find?_eq_some h, by simpa using List.find?_some h⟩
theorem getC_in : ∀ {l : List Chg} {c : Chg}, RiseC l → c ∈ l → getC l c.key = some c
  | x :: r, c, hr, hc => by
    obtain ⟨h1, h2⟩ := List.pairwise_cons.1 hr
    rw [getC_cons]
    rcases List.mem_cons.1 hc with rfl | hc
    · simp
    · rw [if_neg (by have := h1 c hc; omega)]
      exact getC_in h2 hc
/-- What the closures put is of the key that they are told. -/
structure Puts (f : Option Chg × Option Chg → List Chg) : Prop where
  none : f (none, none) = []
  one : ∀ p, (f p).length ≤ 1
  key : ∀ a b k, (∀ x, a = some x → x.key = k) → (∀ y, b = some y → y.key = k) → ∀ c ∈ f (a, b), c.key = k
theorem puts_C : Puts putC := by
  refine ⟨rfl, putC_one, fun a b k ha hb c hc => ?_⟩
  rcases a with _ | x <;> rcases b with _ | y <;> simp [putC] at hc <;> subst hc
  · exact hb _ rfl
  · exact ha _ rfl
  · exact hb _ rfl
/-- One key's changes ahead of those of greater keys. -/
theorem block_get {B rest : List Chg} {k0 : Int} (hB : B.length ≤ 1) (hk : ∀ c ∈ B, c.key = k0) (hr : RiseC rest) (hg : ∀ c ∈ rest, k0 < c.key) :
    RiseC (B ++ rest) ∧ ∀ k, getC (B ++ rest) k = if k = k0 then B.head? else getC rest k := by
  match B, hB with
  | [], _ =>
    refine ⟨hr, fun k => ?_⟩
    by_cases h : k = k0
    · subst h
      rw [if_pos rfl]
      exact getC_no fun c hc => by have := hg c hc; omega
    · rw [if_neg h]; rfl
  | [x], _ =>
    have hx := hk x (by simp)
    refine ⟨List.pairwise_cons.2 ⟨fun c hc => by have := hg c hc; omega, hr⟩, fun k => ?_⟩
    show getC (x :: rest) k = _
    rw [getC_cons, hx]
    by_cases h : k = k0
    · subst h; simp
    · rw [if_neg (fun e => h e.symm), if_neg h]
theorem rise_gt {x : Chg} {l : List Chg} (h : RiseC (x :: l)) : RiseC l ∧ ∀ c ∈ l, x.key < c.key := by
  obtain ⟨h1, h2⟩ := List.pairwise_cons.1 h
  exact ⟨h2, h1⟩
/-- What is told of two rising rows, put together: of each key just what is put of what both have of it. -/
theorem sbs_get {f : Option Chg × Option Chg → List Chg} (hf : Puts f) : ∀ (n : Nat) (l r : List Chg), l.length + r.length ≤ n → RiseC l → RiseC r →
    RiseC ((sbs l r).flatMap f) ∧ ∀ k, getC ((sbs l r).flatMap f) k = (f (getC l k, getC r k)).head? := by
  intro n
  induction n with
  | zero =>
    intro l r h _ _
    obtain rfl : l = [] := List.eq_nil_of_length_eq_zero (by omega)
    obtain rfl : r = [] := List.eq_nil_of_length_eq_zero (by omega)
    rw [sbs_nn]
    exact ⟨List.Pairwise.nil, fun k => by rw [getC_nil, hf.none]; rfl⟩
  | succ n ih =>
    have gt_of : ∀ {l r : List Chg} {k0 : Int}, RiseC ((sbs l r).flatMap f) → (∀ k, getC ((sbs l r).flatMap f) k = (f (getC l k, getC r k)).head?) → (∀ c ∈ l, k0 < c.key) → (∀ c ∈ r, k0 < c.key) → ∀ c ∈ (sbs l r).flatMap f, k0 < c.key := by
      intro l r k0 hr hg h1 h2 c hc
      have h := hg c.key
      rw [getC_in hr hc] at h
      cases ha : getC l c.key with
      | some x => have := h1 x (getC_key ha).1; rw [(getC_key ha).2] at this; exact this
      | none =>
        cases hb : getC r c.key with
        | some y => have := h2 y (getC_key hb).1; rw [(getC_key hb).2] at this; exact this
        | none => rw [ha, hb, hf.none] at h; cases h
    intro l r hn hl hr
    match l, r with
    | [], [] =>
      rw [sbs_nn]
      exact ⟨List.Pairwise.nil, fun k => by rw [getC_nil, hf.none]; rfl⟩
    | x :: l, [] =>
      obtain ⟨hl2, hx⟩ := rise_gt hl
      obtain ⟨i1, i2⟩ := ih l [] (by simp at hn ⊢; omega) hl2 hr
      rw [sbs_cn, List.flatMap_cons]
      obtain ⟨b1, b2⟩ := block_get (hf.one _) (hf.key (some x) none x.key (fun z hz => by injection hz with hz; rw [hz]) (fun z hz => by cases hz)) i1 (gt_of i1 i2 hx (by simp))
      refine ⟨b1, fun k => ?_⟩
      rw [b2, getC_cons, i2]
      by_cases h : k = x.key
      · subst h; simp [getC_nil]
      · rw [if_neg h, if_neg (fun e => h e.symm)]
    | [], y :: r =>
      obtain ⟨hr2, hy⟩ := rise_gt hr
      obtain ⟨i1, i2⟩ := ih [] r (by simp at hn ⊢; omega) hl hr2
      rw [sbs_nc, List.flatMap_cons]
      obtain ⟨b1, b2⟩ := block_get (hf.one _) (hf.key none (some y) y.key (fun z hz => by cases hz) (fun z hz => by injection hz with hz; rw [hz])) i1 (gt_of i1 i2 (by simp) hy)
      refine ⟨b1, fun k => ?_⟩
      rw [b2, getC_cons, i2]
      by_cases h : k = y.key
      · subst h; simp [getC_nil]
      · rw [if_neg h, if_neg (fun e => h e.symm)]
    | x :: l, y :: r =>
      obtain ⟨hl2, hx⟩ := rise_gt hl
      obtain ⟨hr2, hy⟩ := rise_gt hr
      by_cases q1 : x.key < y.key
      · have hyx : ∀ c ∈ y :: r, x.key < c.key := fun c hc => by
          rcases List.mem_cons.1 hc with rfl | hc
          · exact q1
          · have := hy c hc; omega
        obtain ⟨i1, i2⟩ := ih l (y :: r) (by simp at hn ⊢; omega) hl2 hr
        rw [sbs_lt q1, List.flatMap_cons]
        obtain ⟨b1, b2⟩ := block_get (hf.one _) (hf.key (some x) none x.key (fun z hz => by injection hz with hz; rw [hz]) (fun z hz => by cases hz)) i1 (gt_of i1 i2 hx hyx)
        refine ⟨b1, fun k => ?_⟩
        rw [b2, getC_cons x l, i2]
        by_cases h : k = x.key
        · subst h
          rw [if_pos rfl, if_pos rfl, getC_no (fun c hc => by have := hyx c hc; omega)]
        · rw [if_neg h, if_neg (fun e => h e.symm)]
      · by_cases q2 : y.key < x.key
        · have hxy : ∀ c ∈ x :: l, y.key < c.key := fun c hc => by
            rcases List.mem_cons.1 hc with rfl | hc
            · exact q2
            · have := hx c hc; omega
          obtain ⟨i1, i2⟩ := ih (x :: l) r (by simp at hn ⊢; omega) hl hr2
          rw [sbs_gt q2, List.flatMap_cons]
          obtain ⟨b1, b2⟩ := block_get (hf.one _) (hf.key none (some y) y.key (fun z hz => by cases hz) (fun z hz => by injection hz with hz; rw [hz])) i1 (gt_of i1 i2 hxy hy)
          refine ⟨b1, fun k => ?_⟩
          rw [b2, getC_cons y r, i2]
          by_cases h : k = y.key
          · subst h
            rw [if_pos rfl, if_pos rfl, getC_no (fun c hc => by have := hxy c hc; omega)]
          · rw [if_neg h, if_neg (fun e => h e.symm)]
        · have q3 : y.key = x.key := by omega
          obtain ⟨i1, i2⟩ := ih l r (by simp at hn ⊢; omega) hl2 hr2
          rw [sbs_eq q1 q2, List.flatMap_cons]
          obtain ⟨b1, b2⟩ := block_get (hf.one _) (hf.key (some x) (some y) x.key (fun z hz => by injection hz with hz; rw [hz]) (fun z hz => by injection hz with hz; rw [← hz, q3])) i1 (gt_of i1 i2 hx (fun c hc => by have := hy c hc; omega))
          refine ⟨b1, fun k => ?_⟩
          rw [b2, getC_cons x l, getC_cons y r, i2, q3]
          by_cases h : k = x.key
          · subst h; simp
          · rw [if_neg h, if_neg (fun e => h e.symm), if_neg (fun e => h e.symm)]

theorem comp_rise {p q : List Chg} (hp : RiseC p) (hq : RiseC q) : RiseC (comp p q) := (sbs_get puts_C _ p q (Nat.le_refl _) hp hq).1
theorem comp_get {p q : List Chg} (hp : RiseC p) (hq : RiseC q) (k : Int) : getC (comp p q) k = (getC q k).or (getC p k) := by
  have := (sbs_get puts_C _ p q (Nat.le_refl _) hp hq).2 k
  unfold comp
  rw [this]
  cases getC p k <;> cases getC q k <;> rfl
theorem chs_rise {a : List Att} (h : Rise a) : RiseC (chs a) := by
  unfold chs RiseC
  rw [List.pairwise_map]
  exact h
theorem chs_get (a : List Att) (k : Int) : getC (chs a) k = (getA a k).map toC := by
  unfold getC getA chs
  rw [List.find?_map]
  rfl
/-- What a change makes of a key. -/
def ck : Option Chg → Option Att → Option Att
  | some c, _ => if c.g then none else some (toA c)
  | none, x => x
theorem ats_get {p : List Chg} (hp : RiseC p) (k : Int) : getA (ats p) k = ck (getC p k) none := by
  induction p with
  | nil => rfl
  | cons x r ih =>
    obtain ⟨hr, hx⟩ := rise_gt hp
    have e : ats (x :: r) = if x.g then ats r else toA x :: ats r := by unfold ats; cases h : x.g <;> simp [h]
    have hn : x.key = k → getC r k = none := fun h => getC_no fun c hc => by have := hx c hc; omega
    rw [e, getC_cons]
    cases h : x.g
    · simp only [Bool.false_eq_true, if_false]
      unfold getA
      rw [List.find?_cons]
      by_cases hk : x.key = k
      · simp [hk, ck, h]
      · rw [if_neg hk, ← ih hr, show ((toA x).key == k) = false by simpa using hk]
        rfl
    · simp only [if_true]
      rw [ih hr]
      by_cases hk : x.key = k
      · rw [if_pos hk, hn hk]; simp [ck, h]
      · rw [if_neg hk]
theorem app_rise {a : List Att} {p : List Chg} (ha : Rise a) (hp : RiseC p) : Rise (app a p) := ats_rise (comp_rise (chs_rise ha) hp)
theorem app_get {a : List Att} {p : List Chg} (ha : Rise a) (hp : RiseC p) (k : Int) : getA (app a p) k = ck (getC p k) (getA a k) := by
  unfold app
  rw [ats_get (comp_rise (chs_rise ha) hp), comp_get (chs_rise ha) hp, chs_get]
  cases getC p k with
  | some c => rfl
  | none =>
    cases getA a k with
    | none => rfl
    | some x => rfl
theorem getA_key {l : List Att} {k : Int} {c : Att} (h : getA l k = some c) : c ∈ l ∧ c.key = k := by
  unfold getA at h
  exact ⟨List.mem_of_find?_eq_some h, by simpa using List.find?_some h⟩

/-! What follows -/
theorem app_nil {a : List Att} (ha : Rise a) : app a [] = a := by
  refine extA (app_rise ha List.Pairwise.nil) ha fun k => ?_
  rw [app_get ha List.Pairwise.nil]; rfl
end Go.Proofs.Yteodfbkfpboehaa
