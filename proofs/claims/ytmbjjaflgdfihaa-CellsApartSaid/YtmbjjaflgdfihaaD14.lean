
import Derived.Test.YtmbjjaflgdfihaaRows
import Derived.WalkKit
import Derived.ProofKit
import Derived.Below
import Derived.BigQuiet
import Derived.Deep.QuietTactic
import Derived.Lib.Hide
import Derived.OpenShut
import Derived.Laws.AppendOwnNone
import Derived.Laws.CopyOwn
import Derived.Deep.Quiet
import Derived.Test.YtmbjjaflgdfihaaShelf
import Derived.Lib.RuneBytes
import Derived.Lib.ValidLaws
import Derived.Lib.RuneCount
import Derived.Lib.OthersKept
import Derived.Laws.BytesArg
import Derived.Laws.StructEq
import Derived.Laws.Cover2
import Derived.Laws.FloatBits
import Derived.Laws.FloatArith
import Derived.Laws.Externs
import Derived.Laws.Bits64
import Derived.Laws.Bits64b
import Derived.Laws.BitsAllLaws
import Derived.Lib.ConvBytes
import Derived.Laws.AppendOwn
import Derived.Deep.RegionHeld3
import Derived.Maps.RangeWalk
import Derived.RegionTactic
import Derived.BigRegion
import Derived.StillTailTactics
import Derived.Deep.Slices
import Derived.Deep.Fields
import Derived.ChangeArms
import Derived.ChangeSame
/- B -/
namespace Go.Proofs.Ytmbjjaflgdfihaa
open Go.RowKit
set_option linter.unusedVariables false

theorem ret_bool {a b : Bool} (h : a = b) : Ending.returned (.bool a) = .returned (.bool b) := by rw [h]
theorem ret_int {k : IntKind} {a b : Int} (h : a = b) : Ending.returned (.int k a) = .returned (.int k b) := by rw [h]

/-- A slice of integers of kind k that reads as xs. -/
def Ints (k : IntKind) (w : World) (v : Value) (xs : List Int) : Prop :=
  (∃ a cap, v = .slice a 0 cap ∧ xs = [] ∧ cap ≤ maxLen ∧ (a = none → cap = 0)) ∨
  ∃ b off cap, v = .slice (some ⟨b, off, none⟩) xs.length cap ∧ 0 < xs.length ∧ xs.length ≤ cap ∧ cap ≤ maxLen ∧
    (∀ j, j < xs.length → w.cell? ⟨b, off + j, none⟩ = some (.int k (xs.getD j 0)))

theorem Ints.below {k : IntKind} {w w' : World} {v : Value} {xs : List Int} (h : Ints k w v xs) (hb : Below w.heap.size w w') : Ints k w' v xs := by
  rcases h with h | ⟨b, off, cap, rfl, h0, h1, h2, h3⟩
  · exact .inl h
  · refine .inr ⟨b, off, cap, rfl, h0, h1, h2, fun j hj => ?_⟩
    have := h3 j hj
    rw [← this]
    exact hb.cell (p := ⟨b, off + j, none⟩) (World.block_lt_of_cell? w _ this)

theorem Ints.len {k : IntKind} {w : World} {v : Value} {xs : List Int} (h : Ints k w v xs) : xs.length ≤ 9223372036854775807 := by
  rcases h with ⟨a, cap, rfl, rfl, _⟩ | ⟨b, off, cap, rfl, h0, h1, h2, h3⟩
  · simp
  · unfold maxLen at h2; omega

/-- A row of bytes, or of numbers, that the call owns, reads as what it owns. -/
theorem Ints.of_owns {k : IntKind} {w : World} {base : Nat} {e : TypeId} {v : Value} {n : Nat} {xs : List Int} (h : w.ownsRow base e 1 v n (xs.map (Value.int k))) : Ints k w v xs ∧ n = xs.length := by
  have hn : n = xs.length := by have := h.1; simp at this; omega
  subst hn
  refine ⟨?_, rfl⟩
  by_cases hx : xs = []
  · subst hx
    rcases h.2 with ⟨rfl, _⟩ | ⟨g, cap, cur, rfl, hb, hg, hc, hm, _⟩
    · exact .inl ⟨none, 0, rfl, rfl, by simp, fun _ => rfl⟩
    · exact .inl ⟨_, cap, rfl, rfl, hm, by simp⟩
  · have hpos : 0 < xs.length := List.length_pos_iff.2 hx
    rcases h.2 with ⟨rfl, h0⟩ | ⟨g, cap, cur, hv, hb, hg, hc, hm, _⟩
    · omega
    · subst hv
      refine .inr ⟨g, 0, cap, rfl, hpos, hc, hm, fun j hj => ?_⟩
      have := h.cells (g := g) rfl j (.int k (xs.getD j 0)) (by simp [List.getD, hj])
      rw [Go.WideShapes.add_plain] at this
      simpa using this
end Go.Proofs.Ytmbjjaflgdfihaa

/- R -/
namespace Go.Proofs.Ytmbjjaflgdfihaa
open Go.RowKit
set_option linter.unusedVariables false

/-- What a law is told of a slice of integers that came in: nil; or a row of cap cells. -/
def IsRow (k : IntKind) (w : World) (a : Option Addr) (len cap : Nat) (zs : List Int) : Prop :=
  (a = none ∧ len = 0 ∧ cap = 0 ∧ zs = []) ∨
  ∃ x, a = some x ∧ len ≤ cap ∧ cap ≤ maxLen ∧ zs.length = cap ∧ (∀ i, i < zs.length → w.cell? (x.add i) = some (.int k (zs.getD i 0))) ∧ ∀ n ∈ zs, (Lit.int k n).wf = true

theorem IsRow.ints {k : IntKind} {w : World} {a : Option Addr} {len cap : Nat} {zs : List Int} (h : IsRow k w a len cap zs) : Ints k w (.slice a len cap) (zs.take len) := by
  rcases h with ⟨rfl, rfl, rfl, rfl⟩ | ⟨x, rfl, hl, hm, hz, hc, _⟩
  · exact .inl ⟨none, 0, rfl, rfl, by simp, fun _ => rfl⟩
  · have hlen : (zs.take len).length = len := by rw [List.length_take]; omega
    by_cases h0 : len = 0
    · subst h0
      exact .inl ⟨some x, cap, rfl, by simp, hm, by simp⟩
    · obtain ⟨b, off, rfl, hc2⟩ := ints_at hc (by omega)
      refine .inr ⟨b, off, cap, by rw [hlen], by omega, by omega, hm, fun j hj => ?_⟩
      rw [hlen] at hj
      rw [hc2 j (by omega)]
      simp [List.getD, hj]
theorem IsRow.wf {k : IntKind} {w : World} {a : Option Addr} {len cap : Nat} {zs : List Int} (h : IsRow k w a len cap zs) : ∀ n ∈ zs.take len, (Lit.int k n).wf = true := by
  rcases h with ⟨rfl, rfl, rfl, rfl⟩ | ⟨x, rfl, hl, hm, hz, hc, hw⟩
  · simp
  · intro n hn
    exact hw n (List.mem_of_mem_take hn)
theorem wf_u8 {x : Int} (h : (Lit.int .u8 x).wf = true) : 0 ≤ x ∧ x < 256 := by
  have := Go.bounds_u8 h
  omega
end Go.Proofs.Ytmbjjaflgdfihaa

/- W -/
namespace Go.Proofs.Ytmbjjaflgdfihaa
open Go.RowKit
set_option linter.unusedVariables false

theorem grown_refl (w : World) (row : Option Nat) : w.grownBy w row := ⟨rfl, rfl, rfl, Nat.le_refl _, fun _ _ _ => rfl⟩

theorem ints_cells {k : IntKind} (zs : List Int) : ∀ u ∈ zs.map (Value.int k), u.oneCell' = true := by
  intro u hu
  simp at hu
  obtain ⟨x, _, rfl⟩ := hu
  rfl

/-- append(out, src...): out the call's own, src whatever slice of integers, nil too. -/
theorem wpList_append_ints {P : Program} {w : World} {ops : Array Oper} {rest : List Oper} {o : Oper} {a : Act} {Q : Exit → Act → World → Prop} (hgd : o.guard = none) (s x : Operand) (t : TypeId)
    (ho : o.op = .call { callee := .builtin .append, args := #[s, x], argTypes := #[t, t] })
    (base : Nat) (e : TypeId) (i : TypeInfo) (z : Value) (bytes : Nat) (ht : P.underlying t = some (.slice e)) (hi : P.info? e = some i) (hz : i.zero = some z)
    (hsize : i.size = 1) (hby : i.bytes = bytes) (hzs : z.cells.size = 1)
    (v : Value) (n : Nat) (cs : List Value) (hs : a.eval s = v) (hown : w.ownsRow base e 1 v n cs)
    (u : Value) (k : IntKind) (ys : List Int) (hx : a.eval x = u) (hu : Ints k w u ys)
    (h63 : n + ys.length ≤ maxLen) (hbytes : (n + ys.length) * bytes ≤ 140737488355328) (hbase : base ≤ w.heap.size)
    (h : ∀ v' w', w'.ownsRow base e 1 v' (n + ys.length) (cs ++ ys.map (Value.int k)) → w.grownBy w' v.ownBlock → wpList P ops Q rest (a.put o.dst v') w') : wpList P ops Q (o :: rest) a w := by
  rcases hu with ⟨ad, cap, rfl, rfl, hm, hc0⟩ | ⟨b, off, cap, rfl, h0, h1, hm, hc⟩
  · cases ad with
    | none =>
      obtain rfl := hc0 rfl
      exact wpList_append_own_none hgd s x t ho base e i 1 ht hi v n cs hs hown hx (h v w (by simpa using hown) (grown_refl _ _))
    | some ad =>
      exact wpList_append_own w hgd s x t ho base e i z 1 bytes ht hi hz hsize hby hzs (by decide) v n cs hs hown ad 0 cap [] hx rfl (by intro j u hj; simp at hj) (by intro u hu; cases hu) h63 hbytes hbase (fun v' w' q1 q2 _ => h v' w' (by simpa using q1) q2)
  · refine wpList_append_own w hgd s x t ho base e i z 1 bytes ht hi hz hsize hby hzs (by decide) v n cs hs hown ⟨b, off, none⟩ ys.length cap (ys.map (Value.int k)) hx (by simp) ?_ (ints_cells _) h63 hbytes hbase (fun v' w' q1 q2 _ => h v' w' q1 q2)
    intro j u hj
    have hjl : j < ys.length := by
      have := (List.getElem?_eq_some_iff.1 hj).1
      simpa using this
    rw [Go.WideShapes.add_plain, hc j hjl]
    simp [List.getD, hjl] at hj ⊢
    exact hj
end Go.Proofs.Ytmbjjaflgdfihaa

/- K -/
namespace Go.Proofs.Ytmbjjaflgdfihaa
open Go.RowKit
set_option linter.unusedVariables false

theorem ints_nil (k : IntKind) (w : World) : Ints k w (.slice none 0 0) [] := .inl ⟨none, 0, rfl, rfl, by simp, fun _ => rfl⟩
theorem Ints.shape {k : IntKind} {w : World} {v : Value} {xs : List Int} (h : Ints k w v xs) : ∃ a cap, v = .slice a xs.length cap := by
  rcases h with ⟨a, cap, rfl, rfl, hm, _⟩ | ⟨b, off, cap, rfl, h0, h1, hm, hc⟩
  · exact ⟨a, cap, rfl⟩
  · exact ⟨_, _, rfl⟩
theorem owns_built (w : World) (e : TypeId) (cur : Array Value) (hm : cur.size ≤ maxLen) :
    (w.alloc (.cells cur e)).ownsRow w.heap.size e 1 (.slice (some ⟨w.heap.size, 0, none⟩) cur.size cur.size) cur.size cur.toList :=
  ⟨by simp, .inr ⟨w.heap.size, cur.size, cur, rfl, Nat.le_refl _, heap_alloc_new w _, Nat.le_refl _, hm, by omega, by rw [Nat.mul_one]; exact List.take_of_length_le (by simp)⟩⟩
theorem owns_empty (w : World) (e : TypeId) : (w.alloc (.cells #[] e)).ownsRow w.heap.size e 1 (.slice (some ⟨w.heap.size, 0, none⟩) 0 0) 0 [] := owns_built w e #[] (by simp)
theorem owns_below {w w' : World} {base : Nat} {e : TypeId} {size : Nat} {v : Value} {n : Nat} {xs : List Value} (h : w.ownsRow base e size v n xs) (hb : Below w.heap.size w w') : w'.ownsRow base e size v n xs := by
  refine ⟨h.1, ?_⟩
  rcases h.2 with hn | ⟨g, cap, cur, rfl, hB, hg, rest⟩
  · exact .inl hn
  · exact .inr ⟨g, cap, cur, rfl, hB, (hb.block g (Array.getElem?_eq_some_iff.1 hg).1).trans hg, rest⟩
theorem owns_mono {w : World} {B B' : Nat} {e : TypeId} {size : Nat} {v : Value} {n : Nat} {xs : List Value} (h : w.ownsRow B e size v n xs) (hB : B' ≤ B) : w.ownsRow B' e size v n xs := by
  refine ⟨h.1, ?_⟩
  rcases h.2 with hn | ⟨g, cap, cur, rfl, hb, rest⟩
  · exact .inl hn
  · exact .inr ⟨g, cap, cur, rfl, by omega, rest⟩
theorem ints_built (k : IntKind) (w : World) (e : TypeId) (zs : List Int) (hm : zs.length ≤ maxLen) :
    Ints k (w.alloc (.cells (zs.map (Value.int k)).toArray e)) (.slice (some ⟨w.heap.size, 0, none⟩) zs.length zs.length) zs := by
  have h := owns_built w e (zs.map (Value.int k)).toArray (by simpa using hm)
  simp only [List.size_toArray, List.length_map] at h
  exact (Ints.of_owns (n := zs.length) h).1
theorem ints_single (k : IntKind) (w : World) (e : TypeId) (x : Int) :
    Ints k (w.alloc (.cells #[.int k x] e)) (.slice (some ⟨w.heap.size, 0, none⟩) 1 1) [x] := ints_built k w e [x] (by simp [maxLen])
/-- A constant's row, marked behind its last cell. -/
theorem ints_marked (k : IntKind) (w : World) (e : TypeId) (zs : List Int) (hm : zs.length ≤ maxLen) (fr : Nat × Nat) :
    Ints k (w.alloc (.cells (zs.map (Value.int k)).toArray e fr)) (.slice (some ⟨w.heap.size, 0, none⟩) zs.length zs.length) zs := by
  by_cases h0 : zs = []
  · subst h0
    exact .inl ⟨_, 0, rfl, rfl, by simp, by simp⟩
  · refine .inr ⟨w.heap.size, 0, zs.length, rfl, List.length_pos_iff.2 h0, Nat.le_refl _, hm, fun j hj => ?_⟩
    rw [cell_of_row (w.alloc (.cells (zs.map (Value.int k)).toArray e fr)) w.heap.size (0 + j) _ e fr (heap_alloc_new w _)]
    simp [List.getD, hj]
theorem blw_drewN {B : Nat} {a w : World} (h : Below B a w) (n : Nat) : Below B a (w.drewN n) := h.trans ⟨rfl, rfl, rfl, Nat.le_refl _, fun _ _ => rfl⟩
theorem str_app (p q : List Int) : strOfNums (p ++ q) = strOfNums p ++ strOfNums q := by
  apply ByteArray.ext
  rw [ByteArray.data_append]
  unfold strOfNums
  simp
/-- Two strings that are unlike, in the walk's spelling. -/
theorem str_ne {a b : ByteArray} (h : a ≠ b) : (a.toList == b.toList) = false := by
  rw [beq_eq_false_iff_ne, ByteArray.toList_eq, ByteArray.toList_eq]
  exact fun e => h (Go.WideShapes.bytes_inj e)
theorem take_snoc (xs : List Int) (j : Nat) (h : j < xs.length) : xs.take (j + 1) = xs.take j ++ [xs.getD j 0] := by
  rw [List.take_succ_eq_append_getElem h]; simp [List.getD, h]
theorem drop_cons (xs : List Int) (j : Nat) (h : j < xs.length) : xs.drop j = xs.getD j 0 :: xs.drop (j + 1) := by
  rw [List.drop_eq_getElem_cons h]; simp [List.getD, h]

theorem Ints.opened {k : IntKind} {w : World} {a : Option Addr} {n cap : Nat} {xs : List Int} (h : Ints k w (.slice a n cap) xs) (h0 : 0 < xs.length) :
    ∃ b off, a = some ⟨b, off, none⟩ ∧ n = xs.length ∧ xs.length ≤ cap ∧ cap ≤ maxLen ∧ (∀ j, j < xs.length → w.cell? ⟨b, off + j, none⟩ = some (.int k (xs.getD j 0))) := by
  rcases h with ⟨a, cap, hv, rfl, _⟩ | ⟨b, off, cap', hv, _, h1, hm, hc⟩
  · simp at h0
  · injection hv with e1 e2 e3
    subst e1 e2 e3
    exact ⟨b, off, rfl, rfl, h1, hm, hc⟩
theorem Ints.head {k : IntKind} {w : World} {b off cap j : Nat} {xs : List Int} (hj : j ≤ xs.length) (h1 : xs.length ≤ cap) (hm : cap ≤ maxLen)
    (hc : ∀ j, j < xs.length → w.cell? ⟨b, off + j, none⟩ = some (.int k (xs.getD j 0))) : Ints k w (.slice (some ⟨b, off, none⟩) j cap) (xs.take j) := by
  have hl : (xs.take j).length = j := by rw [List.length_take]; omega
  by_cases h0 : j = 0
  · subst h0
    exact .inl ⟨_, cap, rfl, by simp, hm, by simp⟩
  · refine .inr ⟨b, off, cap, by rw [hl], by omega, by omega, hm, fun i hi => ?_⟩
    rw [hl] at hi
    rw [hc i (by omega)]
    simp [List.getD, hi]
theorem Ints.cut {k : IntKind} {w : World} {b off cap j : Nat} {xs : List Int} (hj : j < xs.length) (h1 : xs.length ≤ cap) (hm : cap ≤ maxLen)
    (hc : ∀ j, j < xs.length → w.cell? ⟨b, off + j, none⟩ = some (.int k (xs.getD j 0))) : Ints k w (.slice (some ⟨b, off + j, none⟩) (xs.length - j) (cap - j)) (xs.drop j) := by
  refine .inr ⟨b, off + j, cap - j, by rw [List.length_drop], by rw [List.length_drop]; omega, by rw [List.length_drop]; omega, by omega, fun i hi => ?_⟩
  rw [List.length_drop] at hi
  have := hc (j + i) (by omega)
  rw [Nat.add_assoc, this]
  simp [List.getD]
/-- A part of a slice, as Go cuts it: at the capacity's end the address stays. -/
theorem Ints.mid {k : IntKind} {w : World} {a : Option Addr} {n cap lo hi : Nat} {xs : List Int} (h : Ints k w (.slice a n cap) xs) (h1 : lo ≤ hi) (h2 : hi ≤ xs.length) :
    (cap = lo → Ints k w (.slice a (hi - lo) 0) ((xs.take hi).drop lo)) ∧ (¬ cap = lo → Ints k w (.slice (a.map (·.add lo)) (hi - lo) (cap - lo)) ((xs.take hi).drop lo)) := by
  have hl : ((xs.take hi).drop lo).length = hi - lo := by rw [List.length_drop, List.length_take]; omega
  have hcm : cap ≤ maxLen ∧ (a = none → cap = 0) ∧ xs.length ≤ cap := by
    rcases h with ⟨a', cap', hv', hx, hm, hn⟩ | ⟨b, off, cap', hv', _, hc, hm, _⟩
    · injection hv' with e1 e2 e3; subst e1 e3; subst hx; exact ⟨hm, hn, by simp⟩
    · injection hv' with e1 e2 e3; subst e1 e3; exact ⟨hm, by simp, hc⟩
  have he : lo = hi → ∀ a' c, c ≤ maxLen → (a' = none → c = 0) → Ints k w (.slice a' (hi - lo) c) ((xs.take hi).drop lo) := by
    intro he a' c hc hn
    subst he
    exact .inl ⟨a', c, by rw [Nat.sub_self], by apply List.drop_eq_nil_of_le; rw [List.length_take]; omega, hc, hn⟩
  refine ⟨fun hc => he (by omega) _ _ (by omega) (fun _ => rfl), fun hc => ?_⟩
  by_cases h0 : lo = hi
  · refine he h0 _ _ (by omega) (fun hn => ?_)
    have := hcm.2.1 (by simpa using hn)
    omega
  · obtain ⟨b, off, ha, hn, hx, hm, hcc⟩ := h.opened (by omega)
    subst ha
    refine .inr ⟨b, off + lo, cap - lo, ?_, by omega, by omega, by omega, fun j hj => ?_⟩
    · rw [hl, Option.map_some, Go.WideShapes.add_plain]
    · rw [hl] at hj
      rw [Nat.add_assoc, hcc (lo + j) (by omega)]
      simp only [List.getD, List.getElem?_drop, List.getElem?_take]
      rw [if_pos (by omega)]
theorem Ints.tail {k : IntKind} {w : World} {a : Option Addr} {n cap lo : Nat} {xs : List Int} (h : Ints k w (.slice a n cap) xs) (h1 : lo ≤ xs.length) :
    (cap = lo → Ints k w (.slice a (xs.length - lo) 0) (xs.drop lo)) ∧ (¬ cap = lo → Ints k w (.slice (a.map (·.add lo)) (xs.length - lo) (cap - lo)) (xs.drop lo)) := by
  have := Ints.mid h h1 (Nat.le_refl _)
  rwa [List.take_of_length_le (Nat.le_refl _)] at this

/-- make([]T, l, c) of integers. -/
theorem wpList_make_ints {P : Program} (w : World) {ops : Array Oper} {rest : List Oper} {o : Oper} {a : Act} {Q : Exit → Act → World → Prop}
    (hg : o.guard = none) (l c : Operand) (t : TypeId) (hop : o.op = Op.makeSlice t l c)
    (base : Nat) (e : TypeId) (i : TypeInfo) (k : IntKind) (h1 : P.underlying t = some (.slice e)) (h2 : P.info? e = some i) (h3 : i.zero = some (.int k 0)) (h4 : i.size = 1)
    (kl kc : IntKind) (L C : Int) (n m : Nat) (hl : a.eval l = .int kl L) (hc : a.eval c = .int kc C) (hL : L = (n : Int)) (hC : C = (m : Int)) (hnm : n ≤ m) (b2 : i.bytes * m ≤ 281474976710656) (b3 : m ≤ maxLen) (b4 : base ≤ w.heap.size)
    (hK : ∀ w', w'.ownsRow base e 1 (.slice (some ⟨w.heap.size, 0, none⟩) n m) n (List.replicate n (.int k 0)) → w.grownBy w' none → wpList P ops Q rest (a.put o.dst (.slice (some ⟨w.heap.size, 0, none⟩) n m)) w') :
    wpList P ops Q (o :: rest) a w := by
  refine wpList_plain hg fun K hK' => ?_
  subst hL
  subst hC
  have hb' : (i.bytes : Int) * (m : Int) ≤ 281474976710656 := by
    have h : ((i.bytes * m : Nat) : Int) ≤ 281474976710656 := by omega
    rwa [Int.natCast_mul] at h
  have hrun := run_make (P := P) w t e i (.int k 0) h1 h2 h3 kl kc n m (by omega) (by omega) hb' (by unfold maxLen at b3; omega)
  simp only [Int.toNat_natCast, h4, Nat.mul_one] at hrun
  unfold Oper.wp
  simp [execOp, hop, hl, hc, hrun, Result.andThen]
  refine hK' _ _ (hK _ ⟨by simp, .inr ⟨w.heap.size, m, _, rfl, b4, heap_alloc_new w _, hnm, b3, by rw [size_madeCells, Nat.mul_one], ?_⟩⟩ (World.grownBy_alloc w _ none))
  have : (Value.int k 0).cells = #[.int k 0] := rfl
  rw [this, toList_madeCells_one, List.take_replicate, Nat.mul_one, Nat.min_eq_left hnm]

/-- copy(dst, src) of integers, dst the call's own. -/
theorem wpList_copy_ints {P : Program} {w : World} {ops : Array Oper} {rest : List Oper} {o : Oper} {a : Act} {Q : Exit → Act → World → Prop} (hgd : o.guard = none) (d s : Operand) (dT sT : TypeId)
    (ho : o.op = .call { callee := .builtin .copy, args := #[d, s], argTypes := #[dT, sT] }) (elem : TypeId) (hu : P.underlying dT = some (.slice elem)) (hsz : (P.info? elem).map (·.size) = some 1)
    (B : Nat) (k : IntKind) (v u : Value) (n : Nat) (xs : List Value) (ys : List Int) (hown : w.ownsRow B elem 1 v n xs) (hys : Ints k w u ys) (hd : a.eval d = v) (hs : a.eval s = u) (hle : ys.length ≤ n)
    (h : ∀ w', w'.ownsRow B elem 1 v n (ys.map (Value.int k) ++ xs.drop ys.length) → w.grownBy w' v.ownBlock → wpList P ops Q rest (a.put o.dst (goInt ys.length)) w') :
    wpList P ops Q (o :: rest) a w := by
  obtain ⟨sp, scap, rfl⟩ := hys.shape
  by_cases h0 : ys = []
  · subst h0
    obtain ⟨dp, dcap, rfl⟩ : ∃ dp dcap, v = .slice dp n dcap := by
      rcases hown.2 with ⟨rfl, rfl⟩ | ⟨g, cap, cur, rfl, _⟩
      · exact ⟨none, 0, rfl⟩
      · exact ⟨_, _, rfl⟩
    refine wpList_copy_nothing hgd d s dT sT ho elem hu hsz dp sp n dcap 0 scap hd hs (Nat.zero_min _) ?_
    exact h w (by simpa using hown) ⟨rfl, rfl, rfl, Nat.le_refl _, fun _ _ _ => rfl⟩
  · have hpos : 0 < ys.length := List.length_pos_iff.2 h0
    obtain ⟨b, off, rfl, -, hcap, hm, hc⟩ := hys.opened hpos
    rcases hown.2 with ⟨rfl, h0⟩ | ⟨g, cap, cur, rfl, hBg, hg, hnc, hcm, hcs, htake⟩
    · omega
    · refine wpList_copy_own hgd d s dT sT ho elem hu hsz g 0 n cap ⟨b, off, none⟩ ys.length scap hd hs cur elem hg (ys.map (Value.int k)) ?_ ?_ ?_ (ints_cells _) ?_
      · rw [List.length_map]; exact (Nat.min_eq_left hle).symm
      · intro j u hj
        have hjl : j < ys.length := by
          have := (List.getElem?_eq_some_iff.1 hj).1
          simpa using this
        rw [Go.WideShapes.add_plain, hc j hjl]
        simp [List.getD, hjl] at hj ⊢
        exact hj
      · simp; omega
      · have hxl : xs.length = n := by have := hown.1; simp at this; omega
        rw [List.length_map]
        refine h _ ⟨?_, .inr ⟨g, cap, _, rfl, hBg, setRow_heap w g cur _ elem _ hg, hnc, hcm, ?_, ?_⟩⟩ ⟨rfl, rfl, rfl, by simp, fun j _ hj => setRow_other w g j _ (fun e => hj (by simp [Value.ownBlock, e]))⟩
        · simp; omega
        · simp; omega
        · simp only [List.take_zero, List.nil_append, Nat.zero_add, Nat.mul_one] at htake ⊢
          rw [List.take_append, List.take_of_length_le (by simp; omega), List.length_map]
          congr 1
          rw [← List.drop_take, htake]

/-- string([]byte) of whatever slice. -/
theorem conv_str {P : Program} (T S E : TypeId) (hT : P.underlying T = some (.slice E)) (hE : P.underlying E = some (.int .u8)) (hS : P.underlying S = some .string) (v : Value) (bs : List Int) (w : World) (hv : Ints .u8 w v bs) : (convert T S v).run P w = .ok (.string (strOfNums bs)) w := by
  rcases hv with ⟨a, cap, rfl, rfl, hm, ha⟩ | ⟨b, off, cap, rfl, h0, h1, hm, hc⟩
  · cases a with
    | none => exact run_convert_bytes_nil w _ _ hT hE 0 cap _ hS
    | some x =>
      rw [run_convert_bytes_string w _ _ _ _ 0 cap hT hE hS, run_bytesToString w x 0 cap [] (by simpa using run_loadCells_list (P := P) w x [] (by intro j v hj; simp at hj))]
      rfl
  · exact run_convert_bytes_arg w _ _ hT hE b off bs.length cap bs rfl hc _ hS
end Go.Proofs.Ytmbjjaflgdfihaa

/- K2 -/
namespace Go.Proofs.Ytmbjjaflgdfihaa
open Go.RowKit
set_option linter.unusedVariables false

/-- Behind a call that only makes memory: old cells and old marks read as before. -/
theorem bcell {W w1 : World} (hb : Below W.heap.size W w1) : (∀ b o, b < W.heap.size → w1.cell? ⟨b, o, none⟩ = W.cell? ⟨b, o, none⟩) ∧ (∀ b o, b < W.heap.size → w1.frozen? ⟨b, o, none⟩ = W.frozen? ⟨b, o, none⟩) :=
  ⟨fun b o h => hb.cell (p := ⟨b, o, none⟩) h, fun b o h => hb.frozen (p := ⟨b, o, none⟩) h⟩
theorem below_add {B : Nat} {a b c : World} (h : Below B a b) (k : Below b.heap.size b c) (hB : B ≤ b.heap.size) : Below B a c := h.trans (k.mono hB)
end Go.Proofs.Ytmbjjaflgdfihaa

/- Q -/
namespace Go.Proofs.Ytmbjjaflgdfihaa
open Go.RowKit
set_option linter.unusedVariables false

section
variable {P : Program} {ops : Array Oper} {C : World → Prop} {Q : Act → Prop} {a : Act} {o : Oper} {rest : List Oper}
/-- A region that draws its order, whose operations yield one value in every world of a class and stay in the class: walked once, in the text's order. -/
theorem region_class {id : Nat} {Q' : Exit → Act → World → Prop} {w : World} {l : List Oper} (hm : P.follows .mixedOrders = true) (hB : Region.lexB .any l.toArray = true) (hC : C w.drew)
    (h : wpQuiet P l.toArray C (fun a' => ∀ w', C w' → Q' .normal a' w') l a) : (Code.region id l.toArray true).wp P Q' a w :=
  wp_region_quiet hm hB hC (by simpa using h)
/-- Passed over. -/
theorem q_skip (hw : Region.wanted o (yielded ops a.tmps) = false) (k : wpQuiet P ops C Q rest (a.put o.dst undef)) : wpQuiet P ops C Q (o :: rest) a := by
  unfold wpQuiet; rw [hw]; exact k
/-- A value. -/
theorem q_val {v : Value} (hw : Region.wanted o (yielded ops a.tmps) = true) (hv : ∀ w, C w → (execOp a.eval o).run P w = .ok (.value v) w) (k : wpQuiet P ops C Q rest (a.put o.dst v)) : wpQuiet P ops C Q (o :: rest) a := by
  unfold wpQuiet; rw [if_pos hw]
  exact ⟨v, fun w hc => by unfold Oper.quietAt; rw [hv w hc]; exact ⟨rfl, rfl⟩, k⟩
/-- A call of a function by its contract. -/
theorem q_call {v : Value} {f : FuncId} {args : Array Value} (hw : Region.wanted o (yielded ops a.tmps) = true) (hv : ∀ w, C w → (execOp a.eval o).run P w = .ok (.enter f args) w)
    (hc : ∀ w, C w → Calls P f args w fun e w' => e = .returned v ∧ C w') (k : wpQuiet P ops C Q rest (a.put o.dst v)) : wpQuiet P ops C Q (o :: rest) a := by
  unfold wpQuiet; rw [if_pos hw]
  exact ⟨v, fun w h => by unfold Oper.quietAt; rw [hv w h]; exact ⟨rfl, hc w h⟩, k⟩
theorem q_end (h : Q a) : wpQuiet P ops C Q [] a := h
end
end Go.Proofs.Ytmbjjaflgdfihaa

/- A1 -/
namespace Go.Proofs.Ytmbjjaflgdfihaa
open Go.RowKit
set_option linter.unusedVariables false

def mayB (r : Int) : Bool := decide (0 ≤ r ∧ r ≤ 1114111 ∧ ¬ (55296 ≤ r ∧ r ≤ 57343))

theorem may_any (r : Int) (w : World) :
    Calls Try.prog 16 #[.int .i32 r] w fun e w' => e = .returned (.bool (mayB r)) ∧ w = w' := by
  have hcases : r < 0 ∨ (0 ≤ r ∧ r < 55296) ∨ (55296 ≤ r ∧ r ≤ 57343) ∨ (57343 < r ∧ r ≤ 1114111) ∨ 1114111 < r := by omega
  rcases hcases with h | ⟨h, h'⟩ | ⟨h, h'⟩ | ⟨h, h'⟩ | h
  · have hf : mayB r = false := by unfold mayB; rw [decide_eq_false_iff_not]; omega
    rw [hf]; clear hf
    go_enter Try.func16, Try.ntmps16
    go_wp2
    go_ret
    first | exact ⟨rfl, rfl⟩ | exact ⟨ret_bool (by simp <;> omega), rfl⟩
  · have hf : mayB r = true := by unfold mayB; rw [decide_eq_true_iff]; omega
    rw [hf]; clear hf
    go_enter Try.func16, Try.ntmps16
    go_wp2
    go_ret
    first | exact ⟨rfl, rfl⟩ | exact ⟨ret_bool (by simp <;> omega), rfl⟩
  · have hf : mayB r = false := by unfold mayB; rw [decide_eq_false_iff_not]; omega
    rw [hf]; clear hf
    go_enter Try.func16, Try.ntmps16
    go_wp2
    go_ret
    first | exact ⟨rfl, rfl⟩ | exact ⟨ret_bool (by simp <;> omega), rfl⟩
  · have hf : mayB r = true := by unfold mayB; rw [decide_eq_true_iff]; omega
    rw [hf]; clear hf
    go_enter Try.func16, Try.ntmps16
    go_wp2
    go_ret
    first | exact ⟨rfl, rfl⟩ | exact ⟨ret_bool (by simp <;> omega), rfl⟩
  · have hf : mayB r = false := by unfold mayB; rw [decide_eq_false_iff_not]; omega
    rw [hf]; clear hf
    go_enter Try.func16, Try.ntmps16
    go_wp2
    go_ret
    first | exact ⟨rfl, rfl⟩ | exact ⟨ret_bool (by simp <;> omega), rfl⟩

end Go.Proofs.Ytmbjjaflgdfihaa

/- A2 -/
namespace Go.Proofs.Ytmbjjaflgdfihaa
open Go.RowKit
set_option linter.unusedVariables false

def nl (xs : List Int) : Int := (xs.filter (· == 10)).length
theorem nl_le (xs : List Int) : 0 ≤ nl xs ∧ nl xs ≤ xs.length := by
  unfold nl
  have := List.length_filter_le (fun x : Int => x == 10) xs
  omega
theorem nl_snoc (xs : List Int) (x : Int) : nl (xs ++ [x]) = nl xs + if x = 10 then 1 else 0 := by
  unfold nl
  rw [List.filter_append]
  by_cases h : x = 10 <;> simp [h]
theorem nl_take (xs : List Int) (j : Nat) (h : j < xs.length) : nl (xs.take (j + 1)) = nl (xs.take j) + if xs.getD j 0 = 10 then 1 else 0 := by
  rw [take_snoc xs j h, nl_snoc]

end Go.Proofs.Ytmbjjaflgdfihaa

/- A3 -/
namespace Go.Proofs.Ytmbjjaflgdfihaa
open Go.RowKit
set_option linter.unusedVariables false

def sameB (xs ys : List Int) : Bool := decide (xs = ys)

theorem same_ne (xs ys : List Int) (k : Nat) (h1 : k < xs.length) (h2 : k < ys.length) (h : xs.getD k 0 ≠ ys.getD k 0) : sameB xs ys = false := by
  unfold sameB
  rw [decide_eq_false_iff_not]
  rintro rfl
  exact h rfl
theorem same_eq (xs ys : List Int) (h1 : xs.length = ys.length) (h : xs.take xs.length = ys.take xs.length) : sameB xs ys = true := by
  unfold sameB
  rw [decide_eq_true_iff]
  rw [List.take_of_length_le (Nat.le_refl _), h1, List.take_of_length_le (Nat.le_refl _)] at h
  exact h

set_option maxHeartbeats 400000 in
theorem same_any (v1 v2 : Value) (xs ys : List Int) (w : World) (hv1 : Ints .i32 w v1 xs) (hv2 : Ints .i32 w v2 ys) :
    Calls Try.prog 11 #[v1, v2] w fun e w' => e = .returned (.bool (sameB xs ys)) ∧ ∃ n, w' = w.drewN n := by
  have l1 := hv1.len
  have l2 := hv2.len
  by_cases hlen : xs.length = ys.length
  · rcases hv1 with ⟨a, cap, rfl, rfl, hm, _⟩ | ⟨b, off, cap, rfl, h0, h1, hm, hc⟩
    · obtain rfl : ys = [] := List.eq_nil_of_length_eq_zero hlen.symm
      obtain ⟨a2, cap2, rfl⟩ := hv2.shape
      clear hv2 hlen l1 l2
      go_enter Try.func11, Try.ntmps11
      go_wp2
      refine wp_loop_rounds 1 ?_
      rw [rounds_succ]
      go_wp2
      go_ret
      exact ⟨rfl, 0, rfl⟩
    · rcases hv2 with ⟨a, cap2, rfl, rfl, hm2, _⟩ | ⟨b2, off2, cap2, rfl, h02, h12, hm2, hc2⟩
      · simp at hlen; subst hlen; simp at h0
      · have hq : ((xs.length : Int) == ys.length) = true := by rw [hlen]; simp
        have hq2 : ((xs.length : Int) != ys.length) = false := by rw [hlen]; simp
        have HL := Lib.hid hlen
        have hle : xs.length ≤ ys.length := by omega
        unfold maxLen at hm hm2
        clear hlen
        go_enter Try.func11, Try.ntmps11
        go_wp2
        go_loopw [5] (fun i wr => ∃ k n : Nat, k ≤ xs.length ∧ i = .int .i64 k ∧ Hid (xs.take k = ys.take k) ∧ wr = w.drewN n) (fun i _ => xs.length - (intOf i).toNat)
        case atStart => exact ⟨0, 0, Nat.zero_le _, rfl, by simp [Hid], rfl⟩
        case round =>
          obtain ⟨k, n, hk, rfl, ht, rfl⟩ := hrel
          by_cases hlt : k < xs.length
          · have hcx := hc k hlt
            have hcy := hc2 k (by omega)
            clear hc hc2
            have HK : xs.getD k 0 = ys.getD k 0 → Hid (xs.take (k + 1) = ys.take (k + 1)) := fun he => by
              show xs.take (k + 1) = ys.take (k + 1)
              rw [take_snoc xs k hlt, take_snoc ys k (by omega), ht.out, he]
            have HF := same_ne xs ys k hlt (by omega)
            generalize xs.getD k 0 = x at hcx HK HF
            generalize ys.getD k 0 = y at hcy HK HF
            by_cases he : x = y
            · have HT := HK he
              have hq3 : (x != y) = false := by simp [he]
              have hq4 : (x == y) = true := by simp [he]
              clear HK HF he ht
              go_wp2
              go_quiet (fail)
              go_wp2
              go_roundw
              case rel => exact ⟨k + 1, n + nq, by omega, by go_num, HT, rfl⟩
              case measure => simp [intOf]; omega
            · have HT := Lib.hid (HF he)
              have hq3 : (x != y) = true := by simp [he]
              have hq4 : (x == y) = false := by simp [he]
              clear HK HF he ht
              go_wp2
              go_quiet (fail)
              go_wp2
              go_ret
              exact ⟨ret_bool HT.out.symm, n + nq, World.drewN_drewN _ _ _⟩
          · go_wp2
            go_ret
            exact ⟨ret_bool (same_eq xs ys HL.out (by obtain rfl : k = xs.length := by omega
                                                      exact ht.out)).symm, n, rfl⟩
  · have hq : ((xs.length : Int) == ys.length) = false := by simp; omega
    have hq2 : ((xs.length : Int) != ys.length) = true := by simp; omega
    have hf : sameB xs ys = false := by unfold sameB; rw [decide_eq_false_iff_not]; rintro rfl; exact hlen rfl
    obtain ⟨a1, cap1, rfl⟩ := hv1.shape
    obtain ⟨a2, cap2, rfl⟩ := hv2.shape
    rw [hf]
    clear hf hv1 hv2
    go_enter Try.func11, Try.ntmps11
    go_wp2
    go_ret
    exact ⟨rfl, 0, rfl⟩
end Go.Proofs.Ytmbjjaflgdfihaa

/- A4 -/
namespace Go.Proofs.Ytmbjjaflgdfihaa
open Go.RowKit
set_option linter.unusedVariables false

theorem info21 : (Try.prog.info? 21).map (fun i => (i.zero, i.size, i.bytes)) = some (some (.int .i32 0), 1, 4) := by kernel_rfl

end Go.Proofs.Ytmbjjaflgdfihaa

/- A5 -/
namespace Go.Proofs.Ytmbjjaflgdfihaa
open Go.RowKit
set_option linter.unusedVariables false

end Go.Proofs.Ytmbjjaflgdfihaa

/- A6 -/
namespace Go.Proofs.Ytmbjjaflgdfihaa
open Go.RowKit
set_option linter.unusedVariables false

end Go.Proofs.Ytmbjjaflgdfihaa

/- M1 -/
namespace Go.Proofs.Ytmbjjaflgdfihaa
open Go.Lib
set_option linter.unusedVariables false

/-- What Read gives: the runes of bytes, or nothing. -/
def readF : Nat → List UInt8 → Option (List Int)
  | 0, l => if l = [] then some [] else none
  | f + 1, l => if l = [] then some [] else if (decodeL l).1 = 65533 ∧ (decodeL l).2 = 1 then none else (readF f (l.drop (decodeL l).2)).map fun t => ((decodeL l).1 : Int) :: t
def readL (l : List UInt8) : Option (List Int) := readF l.length l

theorem readF_nil : ∀ f, readF f [] = some []
  | 0 => rfl
  | _ + 1 => by simp [readF]
theorem readF_fuel : ∀ (n m : Nat) (l : List UInt8), l.length ≤ n → l.length ≤ m → readF n l = readF m l
  | 0, m, l, hn, _ => by
    have : l = [] := List.eq_nil_of_length_eq_zero (by omega)
    subst this
    rw [readF_nil, readF_nil]
  | n + 1, 0, l, _, hm => by
    have : l = [] := List.eq_nil_of_length_eq_zero (by omega)
    subst this
    rw [readF_nil, readF_nil]
  | n + 1, m + 1, l, hn, hm => by
    unfold readF
    by_cases hne : l = []
    · simp [hne]
    · have hw := decodeL_width l
      have hl : 0 < l.length := List.length_pos_iff.2 hne
      rw [if_neg hne, if_neg hne, readF_fuel n m (l.drop (decodeL l).2) (by rw [List.length_drop]; omega) (by rw [List.length_drop]; omega)]
theorem readL_nil : readL [] = some [] := rfl
theorem readL_step (l : List UInt8) (hne : l ≠ []) : readL l = if (decodeL l).1 = 65533 ∧ (decodeL l).2 = 1 then none else (readL (l.drop (decodeL l).2)).map fun t => ((decodeL l).1 : Int) :: t := by
  have hl : 0 < l.length := List.length_pos_iff.2 hne
  have hw := decodeL_width l
  obtain ⟨n, hn⟩ : ∃ n, l.length = n + 1 := ⟨l.length - 1, by omega⟩
  unfold readL
  rw [hn]
  show (if l = [] then some [] else _) = _
  rw [if_neg hne, readF_fuel n (l.drop (decodeL l).2).length _ (by rw [List.length_drop]; omega) (Nat.le_refl _)]

/-- The replacement's own three bytes. -/
theorem decode_repl (t : List UInt8) : decodeL (239 :: 191 :: 189 :: t) = (65533, 3) := by
  rw [decodeL_N]
  simp [decodeN]
theorem prefix_repl (l : List UInt8) (h : hasPrefix l [239, 191, 189] = true) : (decodeL l).2 = 3 := by
  unfold hasPrefix at h
  rw [List.isPrefixOf_iff_prefix] at h
  obtain ⟨t, rfl⟩ := h
  rw [show [239, 191, 189] ++ t = 239 :: 191 :: 189 :: t from rfl, decode_repl]
theorem repl_prefix (l : List UInt8) (hne : l ≠ []) (h1 : (decodeL l).1 = 65533) (h2 : (decodeL l).2 ≠ 1) : hasPrefix l [239, 191, 189] = true := by
  have h := encode_decode l hne (fun h => h2 h.2)
  rw [h1] at h
  have e : encodeRune ((65533 : Nat) : Int) = [239, 191, 189] := by decide
  rw [e] at h
  unfold hasPrefix
  rw [List.isPrefixOf_iff_prefix]
  exact h ▸ List.take_prefix _ _

/-- What a round of Read does, in plain words. -/
theorem read_on (L : List UInt8) (pos : Nat) (acc : List Int) (hp : pos < L.length) (hok : ¬ ((decodeL (L.drop pos)).1 = 65533 ∧ (decodeL (L.drop pos)).2 = 1))
    (h : (readL (L.drop pos)).map (fun t => acc ++ t) = readL L) :
    (readL (L.drop (pos + (decodeL (L.drop pos)).2))).map (fun t => (acc ++ [((decodeL (L.drop pos)).1 : Int)]) ++ t) = readL L := by
  have hne : L.drop pos ≠ [] := by
    intro h0
    have := congrArg List.length h0
    simp at this
    omega
  rw [readL_step _ hne, if_neg hok, List.drop_drop] at h
  rw [← h, Option.map_map]
  congr 1
  funext t
  simp
theorem read_off (L : List UInt8) (pos : Nat) (acc : List Int) (hp : pos < L.length) (hok : (decodeL (L.drop pos)).1 = 65533 ∧ (decodeL (L.drop pos)).2 = 1)
    (h : (readL (L.drop pos)).map (fun t => acc ++ t) = readL L) : readL L = none := by
  have hne : L.drop pos ≠ [] := by
    intro h0
    have := congrArg List.length h0
    simp at this
    omega
  rw [readL_step _ hne, if_pos hok] at h
  exact h.symm
theorem read_end (L : List UInt8) (pos : Nat) (acc : List Int) (hp : ¬ pos < L.length) (h : (readL (L.drop pos)).map (fun t => acc ++ t) = readL L) : readL L = some acc := by
  rw [List.drop_eq_nil_of_le (by omega), readL_nil] at h
  simpa using h.symm

/- there and back -/
end Go.Proofs.Ytmbjjaflgdfihaa

/- A7 -/
namespace Go.Proofs.Ytmbjjaflgdfihaa
open Go.RowKit
set_option linter.unusedVariables false

/-- The bytes of a row of numbers. -/
def bl (bs : List Int) : List UInt8 := (strOfNums bs).data.toList
theorem bl_len (bs : List Int) : (bl bs).length = bs.length := by simp [bl, strOfNums]

def ReadPost (B : Nat) (bs : List Int) (w : World) (e : Ending) (w' : World) : Prop :=
  Below w.heap.size w w' ∧
  ((∃ rs v n, readL (bl bs) = some rs ∧ e = .returned (.tuple #[v, .int .i64 0]) ∧ w'.ownsRow B 21 1 v n (rs.map (Value.int .i32))) ∨
   (readL (bl bs) = none ∧ e = .returned (.tuple #[.slice none 0 0, .int .i64 3])))

theorem iter_kept {W w' : World} {k p B n : Nat} {e : TypeId} {s : ByteArray} {v : Value} {cs : List Value} (h : W.heap[k]? = some (.stringIter s p)) (hown : W.ownsRow B e 1 v n cs) (hg : W.grownBy w' v.ownBlock) : w'.heap[k]? = some (.stringIter s p) := by
  have hlt : k < W.heap.size := (Array.getElem?_eq_some_iff.1 h).1
  refine (hg.block k hlt ?_).trans h
  intro hk
  rcases hown.2 with ⟨rfl, _⟩ | ⟨g, cap, cur, rfl, hB, hgg, _⟩
  · simp [Value.ownBlock] at hk
  · simp [Value.ownBlock] at hk
    subst hk
    rw [hgg] at h
    cases h

/-- What a round of Read does to memory. -/
theorem read_round {w wr W w1 : World} {o : Obj} {B K pos p2 n m : Nat} {v v' : Value} {acc : List Int} {r : Int} {s : ByteArray} (hB : w.heap.size = B) (hW : wr.iterAt K s p2 = W)
    (hit : wr.heap[K]? = some (.stringIter s pos)) (hBK : B ≤ K) (hown : (wr.iterAt K s p2).ownsRow B 21 1 v n (acc.map (Value.int .i32))) (hb : Below B w wr)
    (h1 : w1.ownsRow B 21 1 v' m (acc.map (Value.int .i32) ++ [.int .i32 r])) (hg : (W.alloc o).grownBy w1 v.ownBlock) :
    w1.ownsRow B 21 1 v' m ((acc ++ [r]).map (Value.int .i32)) ∧ w1.heap[K]? = some (.stringIter s p2) ∧ Below B w w1 := by
  subst hB
  subst hW
  have hit2 := Lib.iterAt_heap wr K s pos p2 hit
  have hsz := hb.size
  have hbw2 := Lib.below_iterAt hb (k := K) hBK s p2
  have hlt : K < (wr.iterAt K s p2).heap.size := (Array.getElem?_eq_some_iff.1 hit2).1
  refine ⟨by simpa using h1, ?_, ?_⟩
  · exact iter_kept ((Below.heap_alloc _ o K hlt).trans hit2) (hown.alloc o) hg
  · have hsz2 := hbw2.size
    refine (hbw2.alloc hsz2 o).grown hg (by simp; omega) ?_
    intro j hj
    exact (hown.lt j hj).1
theorem owns_iterAt {wr : World} {B K n pos p2 : Nat} {e : TypeId} {v : Value} {cs : List Value} {s : ByteArray} (hown : wr.ownsRow B e 1 v n cs) (hit : wr.heap[K]? = some (.stringIter s pos)) : (wr.iterAt K s p2).ownsRow B e 1 v n cs := by
  refine ⟨hown.1, ?_⟩
  rcases hown.2 with hn | ⟨g, cap, cur, rfl, hB, hgg, rest⟩
  · exact .inl hn
  · refine .inr ⟨g, cap, cur, rfl, hB, ?_, rest⟩
    rw [Lib.iterAt_other, hgg]
    rintro rfl
    rw [hgg] at hit
    cases hit
theorem cell_new (w : World) (x : Value) (t : TypeId) : ∀ j u, [x][j]? = some u → (w.alloc (.cells #[x] t)).cell? ((⟨w.heap.size, 0, none⟩ : Addr).add j) = some u := by
  intro j u hj
  match j, hj with
  | 0, hj => simp at hj; subst hj; simp [Addr.add]
end Go.Proofs.Ytmbjjaflgdfihaa

/- A8 -/
namespace Go.Proofs.Ytmbjjaflgdfihaa
open Go.RowKit
set_option linter.unusedVariables false

theorem size_bl (bs : List Int) : (strOfNums bs).size = (bl bs).length := by rw [bl_len, strOfNums_size]

theorem repl_list : (⟨#[239, 191, 189]⟩ : ByteArray).data.toList = [239, 191, 189] := rfl
/-- strings.HasPrefix of the replacement's bytes, its answer known. -/
theorem prefix_at (s p : ByteArray) (w : World) (b : Bool) (h : Lib.hasPrefix s.data.toList p.data.toList = b) :
    Calls Try.prog 70 #[.string s, .string p] w fun e w' => e = .returned (.bool b) ∧ w = w' :=
  (Try.strings_HasPrefix s p w).mono fun _ _ ⟨he, hw⟩ => ⟨by rw [he, h], hw.symm⟩

/-- All that a round of Read asks, in plain words. -/
theorem read_facts {bs : List Int} {s : ByteArray} {pos : Nat} {acc : List Int} (hsl : s.data.toList = bl bs) (hp : pos < s.size) (hacc : (readL ((bl bs).drop pos)).map (fun t => acc ++ t) = readL (bl bs)) :
    ∃ (r : Int) (r' wd : Nat), Utf8.decode s pos = (r', wd) ∧ (r' : Int) = r ∧ 0 ≤ r ∧ r ≤ 1114111 ∧ 1 ≤ wd ∧ pos + wd ≤ s.size ∧
      (r ≠ 65533 → (readL ((bl bs).drop (pos + wd))).map (fun t => (acc ++ [r]) ++ t) = readL (bl bs)) ∧
      (r = 65533 → (Lib.hasPrefix (s.extract pos s.size).data.toList (⟨#[239, 191, 189]⟩ : ByteArray).data.toList = true ∧ (readL ((bl bs).drop (pos + wd))).map (fun t => (acc ++ [r]) ++ t) = readL (bl bs)) ∨
        (Lib.hasPrefix (s.extract pos s.size).data.toList (⟨#[239, 191, 189]⟩ : ByteArray).data.toList = false ∧ readL (bl bs) = none)) := by
  have hpl : pos < (bl bs).length := by rw [← hsl, ← Lib.size_eq]; exact hp
  have hne : (bl bs).drop pos ≠ [] := by
    intro h0
    have := congrArg List.length h0
    rw [List.length_drop, List.length_nil] at this
    omega
  have hdec := Lib.decodeL_drop s pos
  rw [hsl] at hdec
  have hw1 := Lib.decode_width_pos s pos hp
  have hwl := Lib.decodeL_le _ hne
  have hrl := Lib.rune_le s pos
  have hon := read_on (bl bs) pos acc hpl
  have hoff := read_off (bl bs) pos acc hpl
  have hpre1 := repl_prefix ((bl bs).drop pos) hne
  have hpre2 := prefix_repl ((bl bs).drop pos)
  have hex : (s.extract pos s.size).data.toList = (bl bs).drop pos := by rw [Lib.extract_data, List.take_of_length_le (by rw [List.length_drop, ← Lib.size_eq]; exact Nat.le_refl _), hsl]
  rw [hex, repl_list]
  rw [hdec] at hwl hon hoff hpre1 hpre2
  obtain ⟨r', wd, hd⟩ : ∃ r' wd, Utf8.decode s pos = (r', wd) := ⟨_, _, rfl⟩
  rw [hd] at hwl hon hoff hpre1 hpre2 hw1 hrl
  dsimp only at hwl hon hoff hpre1 hpre2 hw1 hrl
  rw [List.length_drop] at hwl
  have hsz : s.size = (bl bs).length := by rw [Lib.size_eq, hsl]
  refine ⟨r', r', wd, hd, rfl, by omega, by omega, hw1, by omega, fun h => hon (by omega) hacc, fun h => ?_⟩
  by_cases h1 : wd = 1
  · refine .inr ⟨?_, hoff ⟨by omega, h1⟩ hacc⟩
    cases hh : Lib.hasPrefix ((bl bs).drop pos) [239, 191, 189] with
    | false => rfl
    | true => have := hpre2 hh; omega
  · exact .inl ⟨hpre1 (by omega) h1, hon (by omega) hacc⟩

theorem conv_ints (v : Value) (bs : List Int) (w : World) (hv : Ints .u8 w v bs) : (convert 111 9 v).run Try.prog w = .ok (.string (strOfNums bs)) w := by
  rcases hv with ⟨a, cap, rfl, rfl, hm, ha⟩ | ⟨b, off, cap, rfl, h0, h1, hm, hc⟩
  · cases a with
    | none => exact run_convert_bytes_nil w _ _ Try.underlying111 Try.underlying5 0 cap _ Try.underlying9
    | some x =>
      rw [run_convert_bytes_string w _ _ _ _ 0 cap Try.underlying111 Try.underlying5 Try.underlying9, run_bytesToString w x 0 cap [] (by simpa using run_loadCells_list (P := Try.prog) w x [] (by intro j v hj; simp at hj))]
      rfl
  · exact run_convert_bytes_arg w _ _ Try.underlying111 Try.underlying5 b off bs.length cap bs rfl hc _ Try.underlying9

set_option maxHeartbeats 4000000 in
set_option maxRecDepth 100000 in
theorem read_any (v : Value) (bs : List Int) (w : World) (hv : Ints .u8 w v bs) (hlen : bs.length ≤ 1048576) :
    Calls Try.prog 67 #[v] w (ReadPost w.heap.size bs w) := by
  obtain ⟨i0, hi, hz0, hz1, hz2⟩ := info_parts info21
  obtain ⟨s, hs⟩ : ∃ s, strOfNums bs = s := ⟨_, rfl⟩
  have hsl : s.data.toList = bl bs := by rw [← hs]; rfl
  have hsz : s.size = bs.length := by rw [← hs, strOfNums_size]
  have hss : s.size ≤ 1048576 := by omega
  have hconv : ∀ w', w' = w → (convert 111 9 v).run Try.prog w' = .ok (.string s) w' := by
    rintro w' rfl
    rw [← hs]
    exact conv_ints v bs w' hv
  obtain ⟨a, cap, hva⟩ := hv.shape
  subst hva
  have hcv := hconv w rfl
  obtain ⟨B, hB⟩ : ∃ B, w.heap.size = B := ⟨_, rfl⟩
  have HB := Lib.hid hB
  have HSL := Lib.hid hsl
  have HSZ := Lib.hid hsz
  rw [hB]
  have hBle : B ≤ w.heap.size := by omega
  have hrc := Lib.runeCount_le s
  clear hB hs hconv hv hsl hsz
  go_enter Try.func67, Try.ntmps67
  go_wp2_with (go_at_call 69; refine (Try.utf8_RuneCountInString s _ (by omega)).mono ?_)
  rintro e w1 ⟨rfl, p0, rfl⟩
  go_wp2_with (at_make; refine wpList_make_own _ rfl _ _ 36 rfl B 21 i0 (.int .i32 0) 1 Try.underlying36 hi hz0 hz1 _ _ _ (Lib.runeCount s) rfl rfl (by omega) (by rw [hz2]; omega) (by unfold maxLen; omega) (by simp [World.iter]; omega) ?_; intro w0 hown0 hgrow0)
  go_loopw [5] (fun v wr => ∃ (pos : Nat) (acc : List Int) (n : Nat), wr.ownsRow B 21 1 v n (acc.map (Value.int .i32)) ∧ wr.heap[w0.heap.size]? = some (.stringIter s pos) ∧ Below B w wr ∧ Hid ((readL ((bl bs).drop pos)).map (fun t => acc ++ t) = readL (bl bs)) ∧ acc.length ≤ pos ∧ pos ≤ s.size) (fun _ wr => s.size - wr.iterPos w0.heap.size)
  case atStart =>
    refine ⟨0, [], 0, hown0.alloc _, World.iter_heap _ _ _, ?_, by simp [Hid], by simp, by omega⟩
    have h1 : Below B w (w.iter s p0) := (Below.refl _ _).alloc (by omega) _
    have h2 := h1.grown hgrow0 (by simp [World.iter]; omega) (fun k h => by cases h)
    exact h2.alloc (by have := h2.size; omega) _
  case round =>
    obtain ⟨pos, acc, n, hown, hit, hb, hacc, hal, hps⟩ := hrel
    have hszr : w0.heap.size < wr.heap.size := (Array.getElem?_eq_some_iff.1 hit).1
    by_cases hp : pos < s.size
    · obtain ⟨r, r', wd, hd, hrr, hr0, hr1, hw1, hwl, hne, heq⟩ := read_facts HSL.out hp hacc.out
      have hnx : ∀ ty, (Instr.next (.pointer (some ⟨w0.heap.size, 0, none⟩)) true ty).run Try.prog wr = .ok (.tuple #[.bool true, .int .i64 pos, .int .i32 r]) (wr.iterAt w0.heap.size s (pos + wd)) := fun ty => by
        rw [← hrr, Lib.run_next_any_at wr w0.heap.size s pos ty hit hp, hd]
      have hown2 := owns_iterAt (p2 := pos + wd) hown hit
      obtain ⟨W, hW⟩ : ∃ W, wr.iterAt w0.heap.size s (pos + wd) = W := ⟨_, rfl⟩
      have hWs : W.heap.size = wr.heap.size := by rw [← hW, Lib.iterAt_size]
      rw [hW] at hnx hown2
      have HW := Lib.hid hW
      have HD := Lib.hid hd
      have HN := Lib.hid hne
      have HE := Lib.hid heq
      have hBW : B ≤ W.heap.size := by have := hb.size; omega
      have HWS := Lib.hid hWs
      have hn : n ≤ 1048576 := by have e := hown.1; simp at e; omega
      clear hd hrr hne heq hW hWs
      have fin : ∀ (K : Hid ((readL ((bl bs).drop (pos + wd))).map (fun t => (acc ++ [r]) ++ t) = readL (bl bs))) (v' : Value) (w1 : World), w1.ownsRow B 21 1 v' (n + 1) (acc.map (Value.int .i32) ++ [.int .i32 r]) → (W.alloc (.cells #[.int .i32 r] 21)).grownBy w1 u5.ownBlock →
          (∃ (pos : Nat) (acc : List Int) (n : Nat), w1.ownsRow B 21 1 v' n (acc.map (Value.int .i32)) ∧ w1.heap[w0.heap.size]? = some (.stringIter s pos) ∧ Below B w w1 ∧ Hid ((readL ((bl bs).drop pos)).map (fun t => acc ++ t) = readL (bl bs)) ∧ acc.length ≤ pos ∧ pos ≤ s.size) ∧
          s.size - w1.iterPos w0.heap.size < s.size - wr.iterPos w0.heap.size := by
        intro K v' w1 h1 hg
        have hBK : B ≤ w0.heap.size := by have := hgrow0.size; simp [World.iter] at this; omega
        have R := read_round HB.out HW.out hit hBK (HW.out.symm ▸ hown2) hb h1 hg
        refine ⟨⟨pos + wd, acc ++ [r], n + 1, R.1, R.2.1, R.2.2, K, by simp; omega, hwl⟩, ?_⟩
        simp only [World.iterPos, R.2.1, hit]
        omega
      have FIN := Lib.hid fin
      clear fin
      by_cases hz : r = 65533
      · subst hz
        rcases HE.out rfl with ⟨hp1, K0⟩ | ⟨hp1, K0⟩
        · have HP := Lib.hid hp1
          have K := Lib.hid K0
          clear HN HE hp1 K0
          go_wp2_with (first
            | (go_at_call 70; refine (prefix_at _ _ _ _ HP.out).mono ?_; rintro e w' ⟨rfl, rfl⟩)
            | (at_builtin; refine wpList_append_own _ rfl _ _ 36 rfl B 21 i0 (.int .i32 0) 1 4 Try.underlying36 hi hz0 hz1 hz2 rfl (by decide) _ _ _ rfl (hown2.alloc _) ⟨W.heap.size, 0, none⟩ 1 1 [.int .i32 65533] rfl rfl (cell_new _ _ _) (by intro u hu; simp at hu; subst hu; rfl) (by unfold maxLen; omega) (by omega) (by simp; omega) ?_; intro v' w1 hown1 hgrow1 _))
          have R := FIN.out K v' w1 hown1 hgrow1
          clear hown1 hgrow1
          go_wp2
          go_roundw
          case rel => exact R.1
          case measure => exact R.2
        · have HP := Lib.hid hp1
          have K := Lib.hid K0
          have hbw : Below B w W := HW.out ▸ Lib.below_iterAt hb (by have := hgrow0.size; simp [World.iter] at this; omega) s (pos + wd)
          clear HN HE hp1 K0 FIN
          go_wp2_with (go_at_call 70; refine (prefix_at _ _ _ _ HP.out).mono ?_; rintro e w' ⟨rfl, rfl⟩)
          go_ret2
          exact ⟨HB.out.symm ▸ hbw, .inr ⟨K.out, rfl⟩⟩
      · have hq : (r == 65533) = false := by simp [hz]
        have K := Lib.hid (HN.out hz)
        clear HN HE hz
        go_wp2_with (at_builtin; refine wpList_append_own _ rfl _ _ 36 rfl B 21 i0 (.int .i32 0) 1 4 Try.underlying36 hi hz0 hz1 hz2 rfl (by decide) _ _ _ rfl (hown2.alloc _) ⟨W.heap.size, 0, none⟩ 1 1 [.int .i32 r] rfl rfl (cell_new _ _ _) (by intro u hu; simp at hu; subst hu; rfl) (by unfold maxLen; omega) (by omega) (by simp; omega) ?_; intro v' w1 hown1 hgrow1 _)
        have R := FIN.out K v' w1 hown1 hgrow1
        clear hown1 hgrow1
        go_wp2
        go_roundw
        case rel => exact R.1
        case measure => exact R.2
    · have hnx : ∀ ty, (Instr.next (.pointer (some ⟨w0.heap.size, 0, none⟩)) true ty).run Try.prog wr = _ := fun ty => Lib.run_next_end_at wr w0.heap.size s pos ty hit hp
      have HR := Lib.hid (read_end (bl bs) pos acc (by rw [← size_bl]; have := HSZ.out; rw [strOfNums_size]; omega) hacc.out)
      go_wp2
      go_ret2
      exact ⟨HB.out.symm ▸ hb, .inl ⟨acc, _, _, HR.out, rfl, hown⟩⟩
end Go.Proofs.Ytmbjjaflgdfihaa

/- A9 -/
namespace Go.Proofs.Ytmbjjaflgdfihaa
open Go.RowKit
set_option linter.unusedVariables false

end Go.Proofs.Ytmbjjaflgdfihaa

/- L1 -/
namespace Go.Proofs.Ytmbjjaflgdfihaa
open Go.RowKit
set_option linter.unusedVariables false

end Go.Proofs.Ytmbjjaflgdfihaa

/- M2 -/
namespace Go.Proofs.Ytmbjjaflgdfihaa
open Go.Lib
set_option linter.unusedVariables false

end Go.Proofs.Ytmbjjaflgdfihaa

/- A10 -/
namespace Go.Proofs.Ytmbjjaflgdfihaa
open Go.RowKit
set_option linter.unusedVariables false

end Go.Proofs.Ytmbjjaflgdfihaa

/- A11 -/
namespace Go.Proofs.Ytmbjjaflgdfihaa
open Go.RowKit
set_option linter.unusedVariables false

end Go.Proofs.Ytmbjjaflgdfihaa

/- L2 -/
namespace Go.Proofs.Ytmbjjaflgdfihaa
open Go.RowKit
set_option linter.unusedVariables false

def rOut (bs : List Int) : List Int := (readL (bl bs)).getD []
def rErr (bs : List Int) : Int := if (readL (bl bs)).isSome then 0 else 3

def ROut (bs : List Int) (w : World) (e : Ending) (w' : World) : Prop := Below w.heap.size w w' ∧ ∃ v, e = .returned (.tuple #[v, .int .i64 (rErr bs)]) ∧ Ints .i32 w' v (rOut bs)

theorem read_out {B : Nat} {bs : List Int} {w w' : World} {e : Ending} (h : ReadPost B bs w e w') : ROut bs w e w' := by
  obtain ⟨hb, ⟨rs, v, n, hm, rfl, hown⟩ | ⟨hm, rfl⟩⟩ := h
  · refine ⟨hb, v, by simp [rErr, hm], ?_⟩
    have := (Ints.of_owns hown).1
    simpa [rOut, hm] using this
  · refine ⟨hb, _, by simp [rErr, hm]; rfl, ?_⟩
    simpa [rOut, hm] using ints_nil .i32 w'
end Go.Proofs.Ytmbjjaflgdfihaa

/- Y1 -/
namespace Go.Proofs.Ytmbjjaflgdfihaa
open Go.RowKit
set_option linter.unusedVariables false

/-- A value as the program lays it: kind, number, bits, text. -/
@[reducible] def val (k n f : Int) (s : ByteArray) : Value := .agg #[.int .u8 k, .int .i64 n, .int .u64 f, .string s]
@[reducible] def vcells (k n f : Int) (s : ByteArray) : Array Value := #[.int .u8 k, .int .i64 n, .int .u64 f, .string s]

theorem val_eql (k n f k' n' f' : Int) (s s' : ByteArray) (w : World) :
    (binOp .eql 44 (val k n f s) (val k' n' f' s')).run Try.prog w = .ok (.bool ((k == k') && (n == n') && (f == f') && (s.toList == s'.toList))) w := by
  have hS : Try.prog.underlying 44 = some (.struct (Try.prog.fieldsOf 44)) := by kernel_rfl
  have hp : Try.prog.stoodInHeld 44 = false := by kernel_rfl
  have u1 := Try.underlying5
  have u2 := Try.underlying2
  have u3 := Try.underlying42
  have u4 := Try.underlying9
  have a1 := Try.isAgg5
  have a2 := Try.isAgg2
  have a3 := Try.isAgg42
  have a4 := Try.isAgg9
  have z1 := Try.sizeOf5
  have z2 := Try.sizeOf2
  have z3 := Try.sizeOf42
  have z4 := Try.sizeOf9
  rw [run_eql_struct, show (10000 : Nat) = 9999 + 1 from rfl, run_equalIn_agg w 9999 44 _ _ hS hp]
  simp only [Program.fieldsOf, Try.underlying44]
  go_simp
  by_cases h1 : k = k' <;> by_cases h2 : n = n' <;> by_cases h3 : f = f' <;> by_cases h4 : s.toList = s'.toList <;> simp [h1, h2, h3, h4]

theorem bits_of (b : Nat) (w : World) : (callFunc 65 #[.float .f64 b]).run Try.prog w = .ok (.value (.int .u64 b)) w :=
  run_callFunc_extern Try.func65 (by kernel_rfl) (by kernel_rfl) (by kernel_rfl) (e := Extern.MathFloatBits.float64bits) (by kernel_rfl) _ _
theorem of_bits (n : Int) (w : World) : (callFunc 60 #[.int .u64 n]).run Try.prog w = .ok (.value (.float .f64 n.toNat)) w :=
  run_callFunc_extern Try.func60 (by kernel_rfl) (by kernel_rfl) (by kernel_rfl) (e := Extern.MathFloatBits.float64frombits) (by kernel_rfl) _ _
end Go.Proofs.Ytmbjjaflgdfihaa

/- YM1 -/
namespace Go.Proofs.Ytmbjjaflgdfihaa
set_option linter.unusedVariables false

/-- Do the bits say 'no number'? -/
def nanI (f : Int) : Bool := decide (9218868437227405312 < f % 9223372036854775808)
def canonI (f : Int) : Int := if nanI f then 9221120237041090560 else f

theorem dbl_sw : Ieee.double.signWeight = 9223372036854775808 := by decide
theorem dbl_inf : Ieee.double.infRung = 9218868437227405312 := by decide
theorem dbl_bin : Ieee.double.binade = 4503599627370496 := by decide

theorem order_self (d : Ieee.Datum) : (d.order d != some .eq) = d.isNaN := by
  cases d with
  | number s m i => simp [Ieee.Datum.order, Ieee.Datum.isNaN]
  | infinity s => cases s <;> simp [Ieee.Datum.order, Ieee.Datum.isNaN]
  | nan s t => simp [Ieee.Datum.order, Ieee.Datum.isNaN]

theorem read_nan (b : Nat) : (Ieee.double.read b).isNaN = nanI (b : Int) := by
  unfold nanI Ieee.Format.read
  simp only [dbl_sw, dbl_inf, dbl_bin]
  have h : ((b : Int) % 9223372036854775808) = ((b % 9223372036854775808 : Nat) : Int) := by omega
  rw [h]
  generalize b % 9223372036854775808 = r
  split
  · simp [Ieee.Datum.isNaN]; omega
  · split
    · simp [Ieee.Datum.isNaN]; omega
    · split
      · simp [Ieee.Datum.isNaN]; omega
      · simp [Ieee.Datum.isNaN]; omega

/-- 'x != x'. -/
theorem nan_ne (b : Nat) : (FloatKind.f64.format.order b b != some .eq) = nanI (b : Int) := by
  rw [← read_nan b]; exact order_self _
end Go.Proofs.Ytmbjjaflgdfihaa

/- Y2 -/
namespace Go.Proofs.Ytmbjjaflgdfihaa
open Go.RowKit
set_option linter.unusedVariables false

theorem isnan_any (b : Nat) (w : World) :
    Calls Try.prog 66 #[.float .f64 b] w fun e w' => e = .returned (.bool (nanI b)) ∧ w = w' := by
  go_enter Try.func66, Try.ntmps66
  go_wp2
  go_ret
  exact ⟨ret_bool (nan_ne b), rfl⟩
end Go.Proofs.Ytmbjjaflgdfihaa

/- YM2 -/
namespace Go.Proofs.Ytmbjjaflgdfihaa
set_option linter.unusedVariables false

end Go.Proofs.Ytmbjjaflgdfihaa

/- Y3 -/
namespace Go.Proofs.Ytmbjjaflgdfihaa
open Go.RowKit
set_option linter.unusedVariables false

theorem int_any (n : Int) (w : World) :
    Calls Try.prog 58 #[.int .i64 n] w fun e w' => e = .returned (val 2 n 0 ⟨#[]⟩) ∧ Below w.heap.size w w' := by
  go_enter Try.func58, Try.ntmps58
  go_wp2
  exact bodyPost_ret (v := val 2 n 0 ⟨#[]⟩) (by simp [results, Try.results58, go_sem]) rfl ⟨rfl, (Below.refl _ _).alloc (Nat.le_refl _) _⟩

theorem textof_any (s : ByteArray) (w : World) :
    Calls Try.prog 62 #[.string s] w fun e w' => e = .returned (val 4 0 0 s) ∧ Below w.heap.size w w' := by
  go_enter Try.func62, Try.ntmps62
  go_wp2
  exact bodyPost_ret (v := val 4 0 0 s) (by simp [results, Try.results62, go_sem]) rfl ⟨rfl, (Below.refl _ _).alloc (Nat.le_refl _) _⟩

/-- A flag's number. -/
def flagN (b : Bool) : Int := if b then 1 else 0
theorem flag_any (b : Bool) (w : World) :
    Calls Try.prog 57 #[.bool b] w fun e w' => e = .returned (val 1 (flagN b) 0 ⟨#[]⟩) ∧ Below w.heap.size w w' := by
  cases b
  all_goals
    go_enter Try.func57, Try.ntmps57
    go_wp2
  · exact bodyPost_ret (v := val 1 0 0 ⟨#[]⟩) (by simp [results, Try.results57, go_sem]) rfl ⟨rfl, ((Below.refl _ _).alloc (Nat.le_refl _) _).alloc (by simp) _⟩
  · exact bodyPost_ret (v := val 1 1 0 ⟨#[]⟩) (by simp [results, Try.results57, go_sem]) rfl ⟨rfl, ((Below.refl _ _).alloc (Nat.le_refl _) _).alloc (by simp) _⟩

theorem ret_val3 {a b : Int} (h : a = b) : Ending.returned (val 3 0 a ⟨#[]⟩) = .returned (val 3 0 b ⟨#[]⟩) := by rw [h]
theorem canon_no {f : Int} (h : nanI f = false) : f = canonI f := by unfold canonI; rw [h]; rfl
theorem canon_yes {f : Int} (h : nanI f = true) : 9221120237041090560 = canonI f := by unfold canonI; rw [h]; rfl

theorem float_any (b : Nat) (w : World) (hb : b < 18446744073709551616) :
    Calls Try.prog 59 #[.float .f64 b] w fun e w' => e = .returned (val 3 0 (canonI b) ⟨#[]⟩) ∧ Below w.heap.size w w' := by
  have hx := bits_of b
  cases hn : nanI b
  all_goals
    go_enter Try.func59, Try.ntmps59
    go_wp2_with (go_at_call 66; refine (isnan_any _ _).mono ?_; rintro e w' ⟨rfl, rfl⟩)
  · exact bodyPost_ret (v := val 3 0 b ⟨#[]⟩) (by simp [results, Try.results59, go_sem]) rfl ⟨ret_val3 (canon_no hn), ((Below.refl _ _).alloc (Nat.le_refl _) _).alloc (by simp) _⟩
  · exact bodyPost_ret (v := val 3 0 9221120237041090560 ⟨#[]⟩) (by simp [results, Try.results59, go_sem]) rfl ⟨ret_val3 (canon_yes hn), ((Below.refl _ _).alloc (Nat.le_refl _) _).alloc (by simp) _⟩

end Go.Proofs.Ytmbjjaflgdfihaa

/- Y4 -/
namespace Go.Proofs.Ytmbjjaflgdfihaa
open Go.RowKit
set_option linter.unusedVariables false

/-- A text's bytes as numbers. -/
def sbytes (s : ByteArray) : List Int := s.data.toList.map fun b => (b.toNat : Int)
theorem sbytes_len (s : ByteArray) : (sbytes s).length = s.size := by unfold sbytes; simp
theorem bytesWorld_below (w : World) (e : TypeId) (s : ByteArray) : Below w.heap.size w (Lib.bytesWorld w e s) :=
  ⟨rfl, rfl, rfl, by rw [Lib.bytesWorld_size]; omega, fun j hj => Lib.bytesWorld_at_old w e s j hj⟩
/-- '[]byte(s)': the bytes, in a row of the call's own. -/
theorem bytes_of (s : ByteArray) (w : World) (h : s.size ≤ 1048576) : ∃ v w1, (convert 9 111 (.string s)).run Try.prog w = .ok v w1 ∧ Ints .u8 w1 v (sbytes s) ∧ Below w.heap.size w w1 := by
  refine ⟨_, _, Lib.run_convert_string_bytes w 9 111 5 s Try.underlying9 Try.underlying111 Try.underlying5, ?_, bytesWorld_below w _ s⟩
  have hm : s.size ≤ maxLen := by unfold maxLen; omega
  have h1 := grownCap_ge w s.size 0 5
  have h2 := grownCap_le_maxLen w s.size 0 5 hm
  by_cases h0 : s.size = 0
  · refine .inl ⟨_, _, by rw [h0], ?_, h2, by simp⟩
    exact List.length_eq_zero_iff.1 (by rw [sbytes_len]; exact h0)
  · refine .inr ⟨_, _, _, by rw [sbytes_len], by rw [sbytes_len]; omega, by rw [sbytes_len]; exact h1, h2, fun j hj => ?_⟩
    rw [sbytes_len] at hj
    rw [Nat.zero_add, Lib.bytesWorld_cell w _ s j hj]
    unfold sbytes
    have : j < s.data.toList.length := by simpa using hj
    simp [List.getD, hj]

/-- May a text be: at most 64 bytes, and they are read. -/
def textB (s : ByteArray) : Bool := decide (s.size ≤ 64) && decide (rErr (sbytes s) = 0)
theorem textB_long {s : ByteArray} (h : ¬ s.size ≤ 64) : textB s = false := by unfold textB; simp; omega
theorem textB_short {s : ByteArray} (h : s.size ≤ 64) : textB s = (rErr (sbytes s) == 0) := by unfold textB; simp [h]; rfl

set_option maxRecDepth 100000 in
theorem istext_any (s : ByteArray) (w : World) :
    Calls Try.prog 61 #[.string s] w fun e w' => e = .returned (.bool (textB s)) ∧ Below w.heap.size w w' := by
  by_cases hl : s.size ≤ 64
  · obtain ⟨v, w1, hc, hi, hb⟩ := bytes_of s w (by omega)
    have hr := ((read_any v (sbytes s) w1 hi (by rw [sbytes_len]; omega)).mono fun e w' h => read_out h)
    have HR := Lib.hid hr
    clear hr hi
    have HT := Lib.hid (textB_short hl)
    go_enter Try.func61, Try.ntmps61
    go_wp2_with (go_at_call 67; refine HR.out.mono ?_; rintro e w' ⟨hb2, v2, rfl, _⟩)
    go_ret
    exact ⟨ret_bool HT.out.symm, hb.trans (hb2.mono hb.size)⟩
  · have HT := Lib.hid (textB_long hl)
    go_enter Try.func61, Try.ntmps61
    go_wp2
    go_ret
    exact ⟨ret_bool HT.out.symm, Below.refl _ _⟩
end Go.Proofs.Ytmbjjaflgdfihaa

/- Y5 -/
namespace Go.Proofs.Ytmbjjaflgdfihaa
open Go.RowKit
set_option linter.unusedVariables false

/-- A value's four cells at a block. -/
@[reducible] def At (B : Nat) (k n f : Int) (s : ByteArray) (w : World) : Prop :=
  w.cell? ⟨B, 0, none⟩ = some (.int .u8 k) ∧ w.cell? ⟨B, 1, none⟩ = some (.int .i64 n) ∧ w.cell? ⟨B, 2, none⟩ = some (.int .u64 f) ∧ w.cell? ⟨B, 3, none⟩ = some (.string s)
theorem At.below {B : Nat} {k n f : Int} {s : ByteArray} {w w' : World} (h : At B k n f s w) (hb : Below w.heap.size w w') : At B k n f s w' := by
  obtain ⟨h0, h1, h2, h3⟩ := h
  exact ⟨by rw [hb.cell (World.block_lt_of_cell? w _ h0)]; exact h0, by rw [hb.cell (World.block_lt_of_cell? w _ h1)]; exact h1, by rw [hb.cell (World.block_lt_of_cell? w _ h2)]; exact h2, by rw [hb.cell (World.block_lt_of_cell? w _ h3)]; exact h3⟩
theorem At.box (k n f : Int) (s : ByteArray) (w : World) (t : TypeId) : At w.heap.size k n f s (w.alloc (.cells (vcells k n f s) t)) := by
  refine ⟨?_, ?_, ?_, ?_⟩ <;> (rw [cell_of_row _ w.heap.size _ _ t (0, 0) (heap_alloc_new w _)]; rfl)

/-- May a value be. -/
def vmay (k n f : Int) (s : ByteArray) : Bool :=
  decide ((k = 1 ∧ (n = 0 ∨ n = 1) ∧ f = 0 ∧ s.size = 0) ∨ (k = 2 ∧ f = 0 ∧ s.size = 0) ∨ (k = 3 ∧ n = 0 ∧ canonI f = f ∧ s.size = 0) ∨ (k = 4 ∧ n = 0 ∧ f = 0 ∧ textB s = true))

theorem empty_iff (s : ByteArray) : s.toList.isEmpty = decide (s.size = 0) := by
  rw [Lib.toList_data]
  obtain ⟨⟨l⟩⟩ := s
  cases l <;> simp [ByteArray.size]

theorem vmay1 (n f : Int) (s : ByteArray) : (n == flagN (n == 1) && f == 0 && s.toList.isEmpty) = vmay 1 n f s := by
  rw [empty_iff]
  unfold vmay flagN
  rw [Bool.eq_iff_iff]
  by_cases h : n = 1
  · simp [h]
  · have : (n == 1) = false := by simpa using h
    rw [this]
    simp [h]
    constructor
    · rintro ⟨⟨a, b⟩, c⟩; exact ⟨a, b, c⟩
    · rintro ⟨a, b, c⟩; exact ⟨⟨a, b⟩, c⟩
theorem vmay2 (n f : Int) (s : ByteArray) : (f == 0 && s.toList.isEmpty) = vmay 2 n f s := by
  rw [empty_iff]; unfold vmay; rw [Bool.eq_iff_iff]; simp
theorem vmay3 (n f : Int) (s : ByteArray) : (n == 0 && f == canonI f && s.toList.isEmpty) = vmay 3 n f s := by
  rw [empty_iff]; unfold vmay; rw [Bool.eq_iff_iff]; simp; constructor
  · rintro ⟨⟨a, b⟩, c⟩; exact ⟨a, b.symm, c⟩
  · rintro ⟨a, b, c⟩; exact ⟨⟨a, b.symm⟩, c⟩
theorem vmay4 (n f : Int) (s : ByteArray) (h : textB s = true) : (n == 0 && f == 0) = vmay 4 n f s := by
  unfold vmay; rw [Bool.eq_iff_iff]; simp [h]
theorem vmay4n (n f : Int) (s : ByteArray) (h : textB s = false) : false = vmay 4 n f s := by
  unfold vmay; simp [h]
theorem vmay0 (k n f : Int) (s : ByteArray) (h1 : k ≠ 1) (h2 : k ≠ 2) (h3 : k ≠ 3) (h4 : k ≠ 4) : false = vmay k n f s := by
  unfold vmay; simp [h1, h2, h3, h4]

theorem may_one (n f : Int) (s : ByteArray) (w : World) :
    Calls Try.prog 48 #[val 1 n f s] w fun e w' => e = .returned (.bool (vmay 1 n f s)) ∧ Below w.heap.size w w' := by
  have hq := fun n' f' s' w => val_eql 1 n f 1 n' f' s s' w
  have hA := (At.box 1 n f s w 44).below ((Below.refl _ _).drew)
  have hB := (Below.refl w.heap.size w).alloc (Nat.le_refl _) (.cells (vcells 1 n f s) 44)
  have HE := Lib.hid (vmay1 n f s)
  go_enter Try.func48, Try.ntmps48
  go_wp2
  go_region_held3 (fun w' => At w.heap.size 1 n f s w') (first | assumption | trivial)
    (first
      | (go_at_call 57; ((with_reducible refine (flag_any _ _).mono ?_); rintro e w7 ⟨rfl, b7⟩; have h7 := hA.below b7)))
  go_wp2
  go_ret
  exact ⟨ret_bool HE.out, hB.drew.trans (b7.mono (by simp))⟩

theorem may_two (n f : Int) (s : ByteArray) (w : World) :
    Calls Try.prog 48 #[val 2 n f s] w fun e w' => e = .returned (.bool (vmay 2 n f s)) ∧ Below w.heap.size w w' := by
  have hq := fun n' f' s' w => val_eql 2 n f 2 n' f' s s' w
  have hA := (At.box 2 n f s w 44).below ((Below.refl _ _).drew)
  have hB := (Below.refl w.heap.size w).alloc (Nat.le_refl _) (.cells (vcells 2 n f s) 44)
  have HE := Lib.hid (vmay2 n f s)
  go_enter Try.func48, Try.ntmps48
  go_wp2
  go_region_held3 (fun w' => At w.heap.size 2 n f s w') (first | assumption | trivial)
    (first
      | (go_at_call 58; ((with_reducible refine (int_any _ _).mono ?_); rintro e w7 ⟨rfl, b7⟩; have h7 := hA.below b7)))
  go_wp2
  go_ret
  exact ⟨ret_bool (by rw [← HE.out]), hB.drew.trans (b7.mono (by simp))⟩

theorem may_three (n f : Int) (s : ByteArray) (w : World) (h0 : 0 ≤ f) (h1 : f < 18446744073709551616) :
    Calls Try.prog 48 #[val 3 n f s] w fun e w' => e = .returned (.bool (vmay 3 n f s)) ∧ Below w.heap.size w w' := by
  have hq := fun n' f' s' w => val_eql 3 n f 3 n' f' s s' w
  have hx := of_bits f
  have hc : canonI (f.toNat : Int) = canonI f := by rw [Int.toNat_of_nonneg h0]
  have hl : f.toNat < 18446744073709551616 := by omega
  have hA := (At.box 3 n f s w 44).below ((Below.refl _ _).drew)
  have hB := (Below.refl w.heap.size w).alloc (Nat.le_refl _) (.cells (vcells 3 n f s) 44)
  have HE := Lib.hid (vmay3 n f s)
  have HF : ∀ w, Calls Try.prog 59 #[.float .f64 f.toNat] w fun e w' => e = .returned (val 3 0 (canonI f) ⟨#[]⟩) ∧ Below w.heap.size w w' := fun w => by rw [← hc]; exact float_any _ w hl
  have HF := Lib.hid HF
  clear hc hl
  go_enter Try.func48, Try.ntmps48
  go_wp2
  go_region_held3 (fun w' => At w.heap.size 3 n f s w') (first | assumption | trivial)
    (first
      | (go_at_call 59; ((with_reducible refine (HF.out _).mono ?_); rintro e w7 ⟨rfl, b7⟩; have h7 := hA.below b7)))
  go_wp2
  go_ret
  exact ⟨ret_bool (by rw [← HE.out]), hB.drew.trans (b7.mono (by simp))⟩

theorem may_four (n f : Int) (s : ByteArray) (w : World) :
    Calls Try.prog 48 #[val 4 n f s] w fun e w' => e = .returned (.bool (vmay 4 n f s)) ∧ Below w.heap.size w w' := by
  have hq := fun n' f' s' w => val_eql 4 n f 4 n' f' s s' w
  have hA := (At.box 4 n f s w 44).below ((Below.refl _ _).drew)
  have hB := (Below.refl w.heap.size w).alloc (Nat.le_refl _) (.cells (vcells 4 n f s) 44)
  cases ht : textB s
  · have HE := Lib.hid (vmay4n n f s ht)
    have HF : ∀ w, Calls Try.prog 61 #[.string s] w fun e w' => e = .returned (.bool false) ∧ Below w.heap.size w w' := fun w => by rw [← ht]; exact istext_any _ w
    have HF := Lib.hid HF
    clear ht
    go_enter Try.func48, Try.ntmps48
    go_wp2
    first
      | (go_region_with (go_at_call 61; ((with_reducible refine (HF.out _).mono ?_); rintro e w7 ⟨rfl, b7⟩)))
      | fail
    all_goals
      go_wp2
      go_ret
      exact ⟨ret_bool (by rw [← HE.out]), hB.drew.trans (b7.mono (by simp))⟩
  · have HE := Lib.hid (vmay4 n f s ht)
    have HF : ∀ w, Calls Try.prog 61 #[.string s] w fun e w' => e = .returned (.bool true) ∧ Below w.heap.size w w' := fun w => by rw [← ht]; exact istext_any _ w
    have HF := Lib.hid HF
    clear ht
    go_enter Try.func48, Try.ntmps48
    go_wp2
    go_region_held (fun w' => At w.heap.size 4 n f s w') (first | assumption | trivial)
      (first
        | (go_at_call 61; ((with_reducible refine (HF.out _).mono ?_); rintro e w7 ⟨rfl, b7⟩; have h7 := hA.below b7))
        | (go_at_call 62; ((with_reducible refine (textof_any _ _).mono ?_); rintro e w8 ⟨rfl, b8⟩; have h8 := h7.below b8)))
    go_wp2
    go_ret
    exact ⟨ret_bool (by rw [← HE.out]), (hB.drew.trans (b7.mono (by simp))).trans (b8.mono (by have := b7.size; simp at this; omega))⟩

theorem may_other (k n f : Int) (s : ByteArray) (w : World) (h1 : k ≠ 1) (h2 : k ≠ 2) (h3 : k ≠ 3) (h4 : k ≠ 4) :
    Calls Try.prog 48 #[val k n f s] w fun e w' => e = .returned (.bool (vmay k n f s)) ∧ Below w.heap.size w w' := by
  have hB := (Below.refl w.heap.size w).alloc (Nat.le_refl _) (.cells (vcells k n f s) 44)
  have HE := Lib.hid (vmay0 k n f s h1 h2 h3 h4)
  have e1 : (k == 1) = false := by simpa using h1
  have e2 : (k == 2) = false := by simpa using h2
  have e3 : (k == 3) = false := by simpa using h3
  have e4 : (k == 4) = false := by simpa using h4
  go_enter Try.func48, Try.ntmps48
  go_wp2
  go_ret
  exact ⟨ret_bool (by rw [← HE.out]), hB⟩

theorem vmay_any (k n f : Int) (s : ByteArray) (w : World) (h0 : 0 ≤ f) (h1 : f < 18446744073709551616) :
    Calls Try.prog 48 #[val k n f s] w fun e w' => e = .returned (.bool (vmay k n f s)) ∧ Below w.heap.size w w' := by
  by_cases e1 : k = 1
  · subst e1; exact may_one n f s w
  · by_cases e2 : k = 2
    · subst e2; exact may_two n f s w
    · by_cases e3 : k = 3
      · subst e3; exact may_three n f s w h0 h1
      · by_cases e4 : k = 4
        · subst e4; exact may_four n f s w
        · exact may_other k n f s w e1 e2 e3 e4
end Go.Proofs.Ytmbjjaflgdfihaa

/- S1: keys as plain data -/
namespace Go.Proofs.Ytmbjjaflgdfihaa
open Go.RowKit
set_option linter.unusedVariables false

/-- A key of attributes. -/
structure Key where
  id : Int
  blk : Bool
  kind : Int
  aft : Bool
  bef : Bool
  grp : Int

/-- A key as the program lays it, whole and as its six cells. -/
@[reducible] def kv (k : Key) : Value := .agg #[.int .i64 k.id, .bool k.blk, .int .u8 k.kind, .bool k.aft, .bool k.bef, .int .i64 k.grp]
@[reducible] def kc (k : Key) : List Value := [.int .i64 k.id, .bool k.blk, .int .u8 k.kind, .bool k.aft, .bool k.bef, .int .i64 k.grp]
@[reducible] def noKey : Key := ⟨0, false, 0, false, false, 0⟩
instance : Inhabited Key := ⟨noKey⟩

def keq (a b : Key) : Bool := (a.id == b.id) && (a.blk == b.blk) && (a.kind == b.kind) && (a.aft == b.aft) && (a.bef == b.bef) && (a.grp == b.grp)
theorem keq_iff (a b : Key) : keq a b = true ↔ a = b := by
  obtain ⟨a1, a2, a3, a4, a5, a6⟩ := a
  obtain ⟨b1, b2, b3, b4, b5, b6⟩ := b
  simp [keq]
  constructor
  · rintro ⟨⟨⟨⟨⟨h1, h2⟩, h3⟩, h4⟩, h5⟩, h6⟩; exact ⟨h1, h2, h3, h4, h5, h6⟩
  · rintro ⟨h1, h2, h3, h4, h5, h6⟩; exact ⟨⟨⟨⟨⟨h1, h2⟩, h3⟩, h4⟩, h5⟩, h6⟩
theorem keq_self (a : Key) : keq a a = true := (keq_iff a a).2 rfl

/-- What a key's numbers are within. -/
structure KeyW (k : Key) : Prop where
  id : (Lit.int .i64 k.id).wf = true
  kind : (Lit.int .u8 k.kind).wf = true
  grp : (Lit.int .i64 k.grp).wf = true

/-- The first key with that number. -/
def fnd (ks : List Key) (id : Int) : Option Key := ks.find? (fun k => k.id == id)
theorem fnd_nil (id : Int) : fnd [] id = none := rfl
theorem fnd_cons (x : Key) (r : List Key) (id : Int) : fnd (x :: r) id = if x.id = id then some x else fnd r id := by
  unfold fnd
  rw [List.find?_cons]
  by_cases h : x.id = id
  · simp [h]
  · rw [show (x.id == id) = false by simpa using h, if_neg h]
theorem fnd_some {ks : List Key} {id : Int} {k : Key} (h : fnd ks id = some k) : k ∈ ks ∧ k.id = id := by
  unfold fnd at h
  exact ⟨List.mem_of_find?_eq_some h, by have := List.find?_some h; simpa using this⟩
theorem fnd_none {ks : List Key} {id : Int} : fnd ks id = none ↔ ∀ k ∈ ks, k.id ≠ id := by
  unfold fnd
  simp
theorem fnd_snoc (l : List Key) (x : Key) (id : Int) : fnd (l ++ [x]) id = (fnd l id).or (if x.id = id then some x else none) := by
  unfold fnd
  rw [List.find?_append]
  congr 1
  by_cases h : x.id = id <;> simp [h]

/-- No two keys have one number. -/
def Apart (ks : List Key) : Prop := ks.Pairwise (fun a b => a.id ≠ b.id)
theorem Apart.perm {ks l : List Key} (h : Apart ks) (hp : l.Perm ks) : Apart l :=
  (hp.pairwise_iff (R := fun a b : Key => a.id ≠ b.id) (fun {_ _} h => h.symm)).2 h
theorem fnd_mem {ks : List Key} (hA : Apart ks) {k : Key} (hk : k ∈ ks) : fnd ks k.id = some k := by
  induction ks with
  | nil => cases hk
  | cons x r ih =>
    obtain ⟨h1, h2⟩ := List.pairwise_cons.1 hA
    rw [fnd_cons]
    rcases List.mem_cons.1 hk with rfl | hk
    · rw [if_pos rfl]
    · rw [if_neg (h1 k hk)]; exact ih h2 hk

/-- May a key be. -/
def mayK (k : Key) : Bool := decide (1 ≤ k.id ∧ k.id ≤ 1000 ∧ 1 ≤ k.kind ∧ k.kind ≤ 4 ∧ 0 ≤ k.grp ∧ k.grp ≤ 8 ∧ (k.blk = true ∨ k.grp = 0) ∧ ¬ (k.blk = true ∧ k.bef = true))
/-- Keys that may be, each alone, and no two of one number. -/
def Good (ks : List Key) : Prop := (∀ k ∈ ks, mayK k = true) ∧ Apart ks
def mayKs (ks : List Key) : Prop := ks.length ≤ 64 ∧ Good ks
theorem good_nil : Good [] := ⟨by simp, List.Pairwise.nil⟩
theorem Good.take {ks : List Key} (h : Good ks) (j : Nat) : Good (ks.take j) :=
  ⟨fun k hk => h.1 k (List.mem_of_mem_take hk), h.2.sublist (List.take_sublist _ _)⟩
theorem good_snoc {l : List Key} {k : Key} (h : Good l) (hm : mayK k = true) (hf : fnd l k.id = none) : Good (l ++ [k]) := by
  refine ⟨fun x hx => ?_, ?_⟩
  · rcases List.mem_append.1 hx with hx | hx
    · exact h.1 x hx
    · simp at hx; subst hx; exact hm
  · refine List.pairwise_append.2 ⟨h.2, by simp, fun a ha b hb => ?_⟩
    simp at hb
    subst hb
    exact fnd_none.1 hf a ha
theorem bad_snoc {l : List Key} {k : Key} (h : mayK k = false ∨ (fnd l k.id).isSome = true) : ¬ Good (l ++ [k]) := by
  rintro ⟨h1, h2⟩
  rcases h with h | h
  · have := h1 k (by simp)
    rw [h] at this
    cases this
  · obtain ⟨x, hx⟩ := Option.isSome_iff_exists.1 h
    obtain ⟨m, e⟩ := fnd_some hx
    exact (List.pairwise_append.1 h2).2.2 x m k (by simp) e
theorem ktake_snoc (ks : List Key) (j : Nat) (h : j < ks.length) : ks.take (j + 1) = ks.take j ++ [ks[j]] := by
  rw [List.take_succ_eq_append_getElem h]
theorem good_step {ks : List Key} {j : Nat} (hj : j < ks.length) (h : Good (ks.take j)) (hm : mayK ks[j] = true) (hf : fnd (ks.take j) ks[j].id = none) : Good (ks.take (j + 1)) := by
  rw [ktake_snoc ks j hj]; exact good_snoc h hm hf
theorem bad_step {ks : List Key} {j : Nat} (hj : j < ks.length) (h : mayK ks[j] = false ∨ (fnd (ks.take j) ks[j].id).isSome = true) : ¬ Good ks := fun hg => by
  have := hg.take (j + 1)
  rw [ktake_snoc ks j hj] at this
  exact bad_snoc h this
theorem mayK_range {k : Key} (h : mayK k = true) : 1 ≤ k.id ∧ k.id ≤ 1000 := by
  unfold mayK at h; rw [decide_eq_true_iff] at h; exact ⟨h.1, h.2.1⟩

/-! ### by rising numbers -/
def risingTo (ks : List Key) (n : Nat) : List Key := (List.range n).filterMap fun i : Nat => fnd ks ((i : Int) + 1)
def rising (ks : List Key) : List Key := risingTo ks 1000
theorem risingTo_zero (ks : List Key) : risingTo ks 0 = [] := rfl
theorem risingTo_succ (ks : List Key) (n : Nat) : risingTo ks (n + 1) = risingTo ks n ++ (fnd ks ((n : Int) + 1)).toList := by
  unfold risingTo
  rw [List.range_succ, List.filterMap_append]
  cases h : fnd ks ((n : Int) + 1) <;> simp [h]
theorem risingTo_mem {ks : List Key} {n : Nat} {k : Key} (h : k ∈ risingTo ks n) : k ∈ ks ∧ 1 ≤ k.id ∧ k.id ≤ n := by
  unfold risingTo at h
  obtain ⟨i, hi, hf⟩ := List.mem_filterMap.1 h
  obtain ⟨h1, h2⟩ := fnd_some hf
  have := List.mem_range.1 hi
  exact ⟨h1, by omega, by omega⟩
theorem risingTo_strict (ks : List Key) : ∀ n, (risingTo ks n).Pairwise (fun a b => a.id < b.id)
  | 0 => by simp [risingTo_zero]
  | n + 1 => by
    rw [risingTo_succ]
    refine List.pairwise_append.2 ⟨risingTo_strict ks n, ?_, fun a ha b hb => ?_⟩
    · cases fnd ks ((n : Int) + 1) <;> simp
    · have h1 := (risingTo_mem ha).2.2
      have h2 : fnd ks ((n : Int) + 1) = some b := by simpa using hb
      have := (fnd_some h2).2
      omega
theorem rising_mem {ks : List Key} (h : Good ks) (k : Key) : k ∈ rising ks ↔ k ∈ ks := by
  constructor
  · exact fun hk => (risingTo_mem hk).1
  · intro hk
    have hr := mayK_range (h.1 k hk)
    refine List.mem_filterMap.2 ⟨(k.id - 1).toNat, List.mem_range.2 (by omega), ?_⟩
    have : (((k.id - 1).toNat : Nat) : Int) + 1 = k.id := by omega
    rw [this]
    exact fnd_mem h.2 hk
theorem strict_ext : ∀ (a b : List Key), a.Pairwise (fun x y => x.id < y.id) → b.Pairwise (fun x y => x.id < y.id) → (∀ k, k ∈ a ↔ k ∈ b) → a = b
  | [], [], _, _, _ => rfl
  | [], y :: s, _, _, h => absurd ((h y).2 (by simp)) (by simp)
  | x :: r, [], _, _, h => absurd ((h x).1 (by simp)) (by simp)
  | x :: r, y :: s, ha, hb, h => by
    obtain ⟨a1, a2⟩ := List.pairwise_cons.1 ha
    obtain ⟨b1, b2⟩ := List.pairwise_cons.1 hb
    have hxy : x = y := by
      rcases List.mem_cons.1 ((h x).1 (by simp)) with e | hx
      · exact e
      · rcases List.mem_cons.1 ((h y).2 (by simp)) with e | hy
        · exact e.symm
        · have := b1 x hx
          have := a1 y hy
          omega
    subst hxy
    congr 1
    refine strict_ext r s a2 b2 fun k => ⟨fun hk => ?_, fun hk => ?_⟩
    · rcases List.mem_cons.1 ((h k).1 (by simp [hk])) with e | hk'
      · subst e; have := a1 k hk; omega
      · exact hk'
    · rcases List.mem_cons.1 ((h k).2 (by simp [hk])) with e | hk'
      · subst e; have := b1 k hk; omega
      · exact hk'
/-- Whatever strictly rises and has the same keys is the keys by rising numbers. -/
theorem rising_unique {l ks : List Key} (h : Good ks) (hs : l.Pairwise (fun a b => a.id < b.id)) (hm : ∀ k, k ∈ l ↔ k ∈ ks) : l = rising ks :=
  strict_ext _ _ hs (risingTo_strict ks 1000) fun k => (hm k).trans (rising_mem h k).symm
theorem rising_strict (ks : List Key) : (rising ks).Pairwise (fun a b => a.id < b.id) := risingTo_strict ks 1000
theorem strict_nodup {l : List Key} (h : l.Pairwise (fun a b => a.id < b.id)) : l.Nodup := h.imp fun {a b} hl e => by subst e; omega
theorem apart_nodup {l : List Key} (h : Apart l) : l.Nodup := h.imp fun {a b} hl e => hl (by rw [e])
theorem rising_perm {ks : List Key} (h : Good ks) : (rising ks).Perm ks :=
  (List.perm_ext_iff_of_nodup (strict_nodup (rising_strict ks)) (apart_nodup h.2)).2 (rising_mem h)
theorem rising_length {ks : List Key} (h : Good ks) : (rising ks).length = ks.length := (rising_perm h).length_eq
/-- The order in which keys are handed in is nothing. -/
theorem rising_of_perm {ks l : List Key} (h : Good ks) (hp : l.Perm ks) : rising l = rising ks :=
  rising_unique h (rising_strict l) fun k => (rising_mem ⟨fun x hx => h.1 x (hp.mem_iff.1 hx), Apart.perm h.2 hp⟩ k).trans (hp.mem_iff)
theorem rising_nil : rising [] = [] := rising_unique good_nil List.Pairwise.nil (fun _ => Iff.rfl) |>.symm

/-- The others of a key's group. -/
def grpOf (ks : List Key) (id : Int) : List Int :=
  match fnd ks id with
  | none => []
  | some k => if k.grp = 0 then [] else ((rising ks).filter fun o => o.grp == k.grp && o.id != id).map (·.id)
theorem grpOf_nil (id : Int) : grpOf [] id = [] := rfl
end Go.Proofs.Ytmbjjaflgdfihaa

/- S2: the map -/
namespace Go.Proofs.Ytmbjjaflgdfihaa
open Go.RowKit
set_option linter.unusedVariables false

/-- How a key in a map reads. -/
def keyElem : Value → Option (DataW Key × List MemPlace)
  | .agg cs => match cs.toList with
    | [.int .i64 a, .bool b, .int .u8 c, .bool d, .bool e, .int .i64 f] => some (.held ⟨a, b, c, d, e, f⟩, [])
    | _ => none
  | _ => none
theorem keyElem_mk (k : Key) : keyElem (kv k) = some (.held k, []) := rfl
theorem keyElem_inv {v : Value} {z : DataW Key × List MemPlace} (h : keyElem v = some z) : ∃ k, v = kv k ∧ z = (.held k, []) := by
  unfold keyElem at h
  split at h
  · rename_i cs
    split at h
    · rename_i a b c d e f hcs
      cases h
      refine ⟨⟨a, b, c, d, e, f⟩, ?_, rfl⟩
      have : cs = #[.int .i64 a, .bool b, .int .u8 c, .bool d, .bool e, .int .i64 f] := by
        cases cs; simp at hcs; rw [hcs]
      rw [this]
    · cases h
  · cases h

def datOn (D : DataW Key) (ks : List Key) : DataW Key := ks.foldl (fun D k => D.put (.int .i64 k.id) (.held k)) D
def dat (ks : List Key) : DataW Key := datOn (.map []) ks
theorem dat_nil : dat [] = .map [] := rfl
theorem dat_snoc (ks : List Key) (k : Key) : dat (ks ++ [k]) = (dat ks).put (.int .i64 k.id) (.held k) := by simp [dat, datOn, List.foldl_append]
theorem int_key (n : Int) : WideAt.IsKeyLit (.int .i64 n) := trivial
theorem datOn_isMap : ∀ (ks : List Key) (D : DataW Key), Maps.IsMap D → Maps.IsMap (datOn D ks)
  | [], _, h => h
  | x :: r, D, h => datOn_isMap r _ (h.put _ _)
theorem datOn_has (id : Int) : ∀ (ks : List Key) (D : DataW Key), Maps.IsMap D → Maps.has (datOn D ks) (.int .i64 id) = (Maps.has D (.int .i64 id) || (fnd ks id).isSome)
  | [], D, h => by simp [datOn, fnd_nil]
  | x :: r, D, h => by
    have ih := datOn_has id r (D.put (.int .i64 x.id) (.held x)) (h.put _ _)
    show Maps.has (datOn (D.put (.int .i64 x.id) (.held x)) r) _ = _
    rw [ih, fnd_cons]
    by_cases e : x.id = id
    · subst e
      rw [Maps.has_put_same h (int_key _), if_pos rfl]
      simp
    · rw [Maps.has_put_other (fun h => e (by injection h with _ h; exact h.symm)), if_neg e]
theorem dat_has (ks : List Key) (id : Int) : Maps.has (dat ks) (.int .i64 id) = (fnd ks id).isSome := by
  unfold dat
  rw [datOn_has id ks _ Maps.isMap_empty]
  simp [Maps.has]
theorem datOn_at (id : Int) (z : DataW Key) : ∀ (ks : List Key) (D : DataW Key), Maps.IsMap D → Apart ks → (datOn D ks).atKey (.int .i64 id) z = match fnd ks id with | some k => .held k | none => D.atKey (.int .i64 id) z
  | [], D, _, _ => rfl
  | x :: r, D, h, hA => by
    obtain ⟨a1, a2⟩ := List.pairwise_cons.1 hA
    have ih := datOn_at id z r (D.put (.int .i64 x.id) (.held x)) (h.put _ _) a2
    show (datOn (D.put (.int .i64 x.id) (.held x)) r).atKey _ _ = _
    rw [ih, fnd_cons]
    by_cases e : x.id = id
    · subst e
      have hn : fnd r x.id = none := fnd_none.2 fun k hk => (a1 k hk).symm
      rw [hn, if_pos rfl]
      exact Maps.atKey_put_same h (int_key _) _ _
    · rw [if_neg e]
      cases fnd r id with
      | some k => rfl
      | none => exact Maps.atKey_put_other (fun h => e (by injection h with _ h; exact h.symm)) _ _
theorem dat_at {ks : List Key} (hA : Apart ks) (id : Int) (z : Key) : (dat ks).atKey (.int .i64 id) (.held z) = .held ((fnd ks id).getD z) := by
  unfold dat
  rw [datOn_at id _ ks _ Maps.isMap_empty hA]
  cases fnd ks id <;> rfl
theorem dat_at_some {ks : List Key} (hA : Apart ks) {id : Int} {y : DataW Key} (h : ∀ z, (dat ks).atKey (.int .i64 id) z = y) : ∃ k, fnd ks id = some k ∧ y = .held k := by
  have h1 := h (.map [])
  have h2 := h .nil
  unfold dat at h1 h2
  rw [datOn_at id _ ks _ Maps.isMap_empty hA] at h1 h2
  cases hf : fnd ks id with
  | some k => rw [hf] at h1; exact ⟨k, rfl, h1.symm⟩
  | none =>
    rw [hf] at h1 h2
    have : (DataW.map [] : DataW Key) = .nil := by
      have e1 : (DataW.map [] : DataW Key) = y := h1
      have e2 : (DataW.nil : DataW Key) = y := h2
      rw [e1, e2]
    cases this
theorem datOn_size : ∀ (ks : List Key) (D : DataW Key), Maps.Tidy D → Apart ks → (∀ k ∈ ks, Maps.has D (.int .i64 k.id) = false) → Maps.size (datOn D ks) = Maps.size D + ks.length
  | [], D, _, _, _ => rfl
  | x :: r, D, h, hA, hn => by
    obtain ⟨a1, a2⟩ := List.pairwise_cons.1 hA
    show Maps.size (datOn (D.put (.int .i64 x.id) (.held x)) r) = _
    rw [datOn_size r _ (h.put (int_key _) _) a2 (fun k hk => ?_), Maps.size_put h, hn x (by simp)]
    · simp; omega
    · rw [Maps.has_put_other (fun h => a1 k hk (by injection h with _ h; exact h.symm))]
      exact hn k (by simp [hk])
theorem dat_size {ks : List Key} (hA : Apart ks) : Maps.size (dat ks) = ks.length := by
  unfold dat
  rw [datOn_size ks _ Maps.tidy_empty hA (fun k _ => rfl)]
  simp [Maps.size]
end Go.Proofs.Ytmbjjaflgdfihaa

/- S3: rows of keys -/
namespace Go.Proofs.Ytmbjjaflgdfihaa
open Go.RowKit
set_option linter.unusedVariables false

def flat (ks : List Key) : List Value := ks.flatMap kc
theorem flat_cons (k : Key) (r : List Key) : flat (k :: r) = kc k ++ flat r := rfl
theorem flat_len : ∀ ks : List Key, (flat ks).length = ks.length * 6
  | [] => rfl
  | k :: r => by rw [flat_cons, List.length_append, flat_len r]; simp; omega
theorem flat_get : ∀ (ks : List Key) (j i : Nat) (hj : j < ks.length), i < 6 → (flat ks)[j * 6 + i]? = (kc ks[j])[i]?
  | k :: r, 0, i, _, hi => by
    rw [flat_cons, List.getElem?_append_left (by simp; omega)]
    simp
  | k :: r, j + 1, i, hj, hi => by
    rw [flat_cons, List.getElem?_append_right (by simp; omega)]
    have : (j + 1) * 6 + i - (kc k).length = j * 6 + i := by simp; omega
    rw [this, flat_get r j i (by simpa using hj) hi]
    simp

/-- A key's six cells at a place. -/
@[reducible] def KAt (b o : Nat) (k : Key) (w : World) : Prop :=
  w.cell? ⟨b, o, none⟩ = some (.int .i64 k.id) ∧ w.cell? ⟨b, o + 1, none⟩ = some (.bool k.blk) ∧ w.cell? ⟨b, o + 2, none⟩ = some (.int .u8 k.kind) ∧ w.cell? ⟨b, o + 3, none⟩ = some (.bool k.aft) ∧ w.cell? ⟨b, o + 4, none⟩ = some (.bool k.bef) ∧ w.cell? ⟨b, o + 5, none⟩ = some (.int .i64 k.grp)
/-- .. at a block's head. -/
@[reducible] def KBox (b : Nat) (k : Key) (w : World) : Prop :=
  w.cell? ⟨b, 0, none⟩ = some (.int .i64 k.id) ∧ w.cell? ⟨b, 1, none⟩ = some (.bool k.blk) ∧ w.cell? ⟨b, 2, none⟩ = some (.int .u8 k.kind) ∧ w.cell? ⟨b, 3, none⟩ = some (.bool k.aft) ∧ w.cell? ⟨b, 4, none⟩ = some (.bool k.bef) ∧ w.cell? ⟨b, 5, none⟩ = some (.int .i64 k.grp)
theorem KBox.below {B : Nat} {b : Nat} {k : Key} {w w' : World} (h : KBox b k w) (hb : Below B w w') (hB : b < B) : KBox b k w' := by
  obtain ⟨h0, h1, h2, h3, h4, h5⟩ := h
  exact ⟨(hb.cell (p := ⟨b, _, none⟩) hB).trans h0, (hb.cell (p := ⟨b, _, none⟩) hB).trans h1, (hb.cell (p := ⟨b, _, none⟩) hB).trans h2, (hb.cell (p := ⟨b, _, none⟩) hB).trans h3, (hb.cell (p := ⟨b, _, none⟩) hB).trans h4, (hb.cell (p := ⟨b, _, none⟩) hB).trans h5⟩
theorem KBox.box (k : Key) (w : World) (t : TypeId) : KBox w.heap.size k (w.alloc (.cells (kc k).toArray t)) := by
  refine ⟨?_, ?_, ?_, ?_, ?_, ?_⟩ <;> (rw [cell_of_row _ w.heap.size _ _ t (0, 0) (heap_alloc_new w _)]; rfl)

/-- A slice of keys that reads as ks. -/
def Krow (w : World) (v : Value) (ks : List Key) : Prop :=
  (∃ a cap, v = .slice a 0 cap ∧ ks = [] ∧ cap ≤ maxLen ∧ (a = none → cap = 0)) ∨
  ∃ b off cap, v = .slice (some ⟨b, off, none⟩) ks.length cap ∧ 0 < ks.length ∧ ks.length ≤ cap ∧ cap ≤ maxLen ∧
    (∀ j u, (flat ks)[j]? = some u → w.cell? ⟨b, off + j, none⟩ = some u)
theorem Krow.below {B : Nat} {w w' : World} {v : Value} {ks : List Key} (h : Krow w v ks) (hb : Below B w w') (hB : w.heap.size ≤ B) : Krow w' v ks := by
  rcases h with h | ⟨b, off, cap, rfl, h0, h1, h2, h3⟩
  · exact .inl h
  · refine .inr ⟨b, off, cap, rfl, h0, h1, h2, fun j u hu => ?_⟩
    have := h3 j u hu
    rw [← this]
    exact hb.cell (p := ⟨b, off + j, none⟩) (Nat.lt_of_lt_of_le (World.block_lt_of_cell? w _ this) hB)
theorem Krow.shape {w : World} {v : Value} {ks : List Key} (h : Krow w v ks) : ∃ a cap, v = .slice a ks.length cap := by
  rcases h with ⟨a, cap, rfl, rfl, hm, _⟩ | ⟨b, off, cap, rfl, h0, h1, hm, hc⟩
  · exact ⟨a, cap, rfl⟩
  · exact ⟨_, _, rfl⟩
theorem Krow.len {w : World} {v : Value} {ks : List Key} (h : Krow w v ks) : ks.length ≤ 9223372036854775807 := by
  rcases h with ⟨a, cap, rfl, rfl, _⟩ | ⟨b, off, cap, rfl, h0, h1, h2, h3⟩
  · simp
  · unfold maxLen at h2; omega
theorem Krow.nil (w : World) : Krow w (.slice none 0 0) [] := .inl ⟨none, 0, rfl, rfl, by simp, fun _ => rfl⟩
theorem Krow.opened {w : World} {a : Option Addr} {n cap : Nat} {ks : List Key} (h : Krow w (.slice a n cap) ks) (h0 : 0 < ks.length) :
    ∃ b off, a = some ⟨b, off, none⟩ ∧ n = ks.length ∧ ks.length ≤ cap ∧ cap ≤ maxLen ∧ b < w.heap.size ∧ (∀ j (hj : j < ks.length), KAt b (off + j * 6) ks[j] w) := by
  rcases h with ⟨a, cap, hv, rfl, _⟩ | ⟨b, off, cap', hv, _, h1, hm, hc⟩
  · simp at h0
  · injection hv with e1 e2 e3
    subst e1 e2 e3
    have hat : ∀ j (hj : j < ks.length), KAt b (off + j * 6) ks[j] w := fun j hj => by
      have g := fun i (hi : i < 6) u (hu : (kc ks[j])[i]? = some u) => hc (j * 6 + i) u ((flat_get ks j i hj hi).trans hu)
      refine ⟨?_, ?_, ?_, ?_, ?_, ?_⟩
      · exact g 0 (by omega) _ rfl
      · simpa [Nat.add_assoc] using g 1 (by omega) _ rfl
      · simpa [Nat.add_assoc] using g 2 (by omega) _ rfl
      · simpa [Nat.add_assoc] using g 3 (by omega) _ rfl
      · simpa [Nat.add_assoc] using g 4 (by omega) _ rfl
      · simpa [Nat.add_assoc] using g 5 (by omega) _ rfl
    exact ⟨b, off, rfl, rfl, h1, hm, World.block_lt_of_cell? w _ (hat 0 h0).1, hat⟩
/-- A row that the call owns reads as what it owns. -/
theorem Krow.of_owns {w : World} {base : Nat} {e : TypeId} {v : Value} {n : Nat} {ks : List Key} (h : w.ownsRow base e 6 v n (flat ks)) : Krow w v ks ∧ n = ks.length := by
  have hn : n = ks.length := by have := h.1; rw [flat_len] at this; omega
  subst hn
  refine ⟨?_, rfl⟩
  by_cases hx : ks = []
  · subst hx
    rcases h.2 with ⟨rfl, _⟩ | ⟨g, cap, cur, rfl, hb, hg, hc, hm, _⟩
    · exact .inl ⟨none, 0, rfl, rfl, by simp, fun _ => rfl⟩
    · exact .inl ⟨_, cap, rfl, rfl, hm, by simp⟩
  · have hpos : 0 < ks.length := List.length_pos_iff.2 hx
    rcases h.2 with ⟨rfl, h0⟩ | ⟨g, cap, cur, hv, hb, hg, hc, hm, _⟩
    · omega
    · subst hv
      refine .inr ⟨g, 0, cap, rfl, hpos, hc, hm, fun j u hu => ?_⟩
      have := h.cells (g := g) rfl j u hu
      rw [Go.WideShapes.add_plain] at this
      simpa using this
end Go.Proofs.Ytmbjjaflgdfihaa

/- S4: may -/
namespace Go.Proofs.Ytmbjjaflgdfihaa
open Go.RowKit
set_option linter.unusedVariables false

theorem iskind_any (n : Int) (w : World) :
    Calls Try.prog 31 #[.int .u8 n] w fun e w' => e = .returned (.bool (decide (1 ≤ n ∧ n ≤ 4))) ∧ w = w' := by
  by_cases h1 : n = 1
  · subst h1
    go_enter Try.func31, Try.ntmps31
    go_wp2
    go_ret
    exact ⟨rfl, rfl⟩
  by_cases h2 : n = 2
  · subst h2
    go_enter Try.func31, Try.ntmps31
    go_wp2
    go_ret
    exact ⟨rfl, rfl⟩
  by_cases h3 : n = 3
  · subst h3
    go_enter Try.func31, Try.ntmps31
    go_wp2
    go_ret
    exact ⟨rfl, rfl⟩
  by_cases h4 : n = 4
  · subst h4
    go_enter Try.func31, Try.ntmps31
    go_wp2
    go_ret
    exact ⟨rfl, rfl⟩
  have e1 : (n == 1) = false := by simpa using h1
  have e2 : (n == 2) = false := by simpa using h2
  have e3 : (n == 3) = false := by simpa using h3
  have e4 : (n == 4) = false := by simpa using h4
  have hf : decide (1 ≤ n ∧ n ≤ 4) = false := by rw [decide_eq_false_iff_not]; omega
  rw [hf]
  clear h1 h2 h3 h4 hf
  go_enter Try.func31, Try.ntmps31
  go_wp2
  go_ret
  exact ⟨rfl, rfl⟩

def mayG (k : Key) : Bool := decide (k.grp = 0 ∨ (k.blk = true ∧ 1 ≤ k.grp ∧ k.grp ≤ 8))
theorem maygroup_any (k : Key) (w : World) :
    Calls Try.prog 32 #[kv k] w fun e w' => e = .returned (.bool (mayG k)) ∧ Below w.heap.size w w' := by
  have hB := (Below.refl w.heap.size w).alloc (Nat.le_refl _) (.cells (kc k).toArray 48)
  obtain ⟨id, blk, kind, aft, bef, grp⟩ := k
  by_cases h0 : grp = 0
  · subst h0
    have hm : mayG ⟨id, blk, kind, aft, bef, 0⟩ = true := by simp [mayG]
    rw [hm]
    clear hm
    go_enter Try.func32, Try.ntmps32
    go_wp2
    go_ret
    exact ⟨rfl, hB⟩
  · have e0 : (grp == 0) = false := by simpa using h0
    cases blk
    · have hm : mayG ⟨id, false, kind, aft, bef, grp⟩ = false := by simp [mayG, h0]
      rw [hm]
      clear hm h0
      go_enter Try.func32, Try.ntmps32
      go_wp2
      go_ret
      exact ⟨rfl, hB⟩
    · by_cases h1 : 1 ≤ grp
      · have hm : mayG ⟨id, true, kind, aft, bef, grp⟩ = decide (grp ≤ 8) := by simp [mayG, h0, h1]
        rw [hm]
        have d1 : decide (1 ≤ grp) = true := by simpa using h1
        clear hm h0
        go_enter Try.func32, Try.ntmps32
        go_wp2
        go_ret
        exact ⟨rfl, hB⟩
      · have hm : mayG ⟨id, true, kind, aft, bef, grp⟩ = false := by simp [mayG, h0, h1]
        rw [hm]
        have d1 : decide (1 ≤ grp) = false := by simpa using h1
        clear hm h0
        go_enter Try.func32, Try.ntmps32
        go_wp2
        go_ret
        exact ⟨rfl, hB⟩

theorem mayK_eq (k : Key) : mayK k = (decide (1 ≤ k.id) && decide (k.id ≤ 1000) && decide (1 ≤ k.kind ∧ k.kind ≤ 4) && mayG k && !(k.blk && k.bef)) := by
  obtain ⟨id, blk, kind, aft, bef, grp⟩ := k
  unfold mayK mayG
  rw [Bool.eq_iff_iff]
  cases blk <;> cases bef <;> simp <;> omega
end Go.Proofs.Ytmbjjaflgdfihaa

/- S5: may, whole -/
namespace Go.Proofs.Ytmbjjaflgdfihaa
open Go.RowKit
set_option linter.unusedVariables false

theorem keymay_any (k : Key) (w : World) :
    Calls Try.prog 14 #[kv k] w fun e w' => e = .returned (.bool (mayK k)) ∧ Below w.heap.size w w' := by
  have hB := (Below.refl w.heap.size w).alloc (Nat.le_refl _) (.cells (kc k).toArray 48)
  have hK := KBox.box k w 48
  rw [mayK_eq]
  have HI := fun w => iskind_any k.kind w
  have HG := fun w => maygroup_any k w
  obtain ⟨id, blk, kind, aft, bef, grp⟩ := k
  simp only at HI hK
  by_cases h1 : 1 ≤ id
  · have d1 : decide (1 ≤ id) = true := by simpa using h1
    simp only [d1, Bool.true_and]
    by_cases h2 : id ≤ 1000
    · have d2 : decide (id ≤ 1000) = true := by simpa using h2
      simp only [d2, Bool.true_and]
      generalize decide (1 ≤ kind ∧ kind ≤ 4) = b3 at HI ⊢
      cases b3
      · simp only [Bool.false_and]
        have HI := Lib.hid HI
        clear HG
        go_enter Try.func14, Try.ntmps14
        go_wp2_with (go_at_call 31; ((with_reducible refine (HI.out _).mono ?_); rintro e w' ⟨rfl, rfl⟩))
        go_ret
        exact ⟨rfl, hB⟩
      · generalize mayG ⟨id, blk, kind, aft, bef, grp⟩ = b4 at HG ⊢
        simp only [Bool.true_and]
        have HI := Lib.hid HI
        have HG := Lib.hid HG
        cases b4
        · simp only [Bool.false_and]
          go_enter Try.func14, Try.ntmps14
          go_wp2_with (first
            | (go_at_call 31; ((with_reducible refine (HI.out _).mono ?_); rintro e w' ⟨rfl, rfl⟩))
            | (go_at_call 32; ((with_reducible refine (HG.out _).mono ?_); rintro e w2 ⟨rfl, hb2⟩)))
          go_ret
          exact ⟨rfl, below_add hB hb2 hB.size⟩
        · simp only [Bool.true_and]
          cases blk <;> cases bef
          all_goals
            go_enter Try.func14, Try.ntmps14
            go_wp2_with (first
              | (go_at_call 31; ((with_reducible refine (HI.out _).mono ?_); rintro e w' ⟨rfl, rfl⟩))
              | (go_at_call 32; ((with_reducible refine (HG.out _).mono ?_); rintro e w2 ⟨rfl, hb2⟩; have hK2 := hK.below hb2 (by simp))))
            go_ret
            exact ⟨rfl, below_add hB hb2 hB.size⟩
    · have d2 : decide (id ≤ 1000) = false := by simpa using h2
      simp only [d2, Bool.false_and]
      clear HI HG
      go_enter Try.func14, Try.ntmps14
      go_wp2
      go_ret
      exact ⟨rfl, hB⟩
  · have d1 : decide (1 ≤ id) = false := by simpa using h1
    simp only [d1, Bool.false_and]
    clear HI HG
    go_enter Try.func14, Try.ntmps14
    go_wp2
    go_ret
    exact ⟨rfl, hB⟩
end Go.Proofs.Ytmbjjaflgdfihaa

/- S6: the reference's Find -/
namespace Go.Proofs.Ytmbjjaflgdfihaa
open Go.RowKit
set_option linter.unusedVariables false

theorem KAt.below {B b o : Nat} {k : Key} {w w' : World} (h : KAt b o k w) (hb : Below B w w') (hB : b < B) : KAt b o k w' := by
  obtain ⟨h0, h1, h2, h3, h4, h5⟩ := h
  exact ⟨(hb.cell (p := ⟨b, _, none⟩) hB).trans h0, (hb.cell (p := ⟨b, _, none⟩) hB).trans h1, (hb.cell (p := ⟨b, _, none⟩) hB).trans h2, (hb.cell (p := ⟨b, _, none⟩) hB).trans h3, (hb.cell (p := ⟨b, _, none⟩) hB).trans h4, (hb.cell (p := ⟨b, _, none⟩) hB).trans h5⟩

@[reducible] def fndV (ks : List Key) (id : Int) : Value := .tuple #[kv ((fnd ks id).getD noKey), .bool (fnd ks id).isSome]

theorem fndV_some {ks : List Key} {id : Int} {k : Key} (h : fnd ks id = some k) : fndV ks id = .tuple #[kv k, .bool true] := by unfold fndV; rw [h]; rfl
theorem fndV_none {ks : List Key} {id : Int} (h : fnd ks id = none) : fndV ks id = .tuple #[kv noKey, .bool false] := by unfold fndV; rw [h]; rfl

end Go.Proofs.Ytmbjjaflgdfihaa

/- S7: a schema -/
namespace Go.Proofs.Ytmbjjaflgdfihaa
open Go.RowKit
set_option linter.unusedVariables false

/-- A schema of these keys: none, a zero one, one with a map. -/
def Sch (w : World) (v : Value) (ks : List Key) : Prop :=
  Good ks ∧ ((v = .pointer none ∧ ks = []) ∨
    (∃ s, v = .pointer (some ⟨s, 0, none⟩) ∧ w.cell? ⟨s, 0, none⟩ = some (.map none) ∧ ks = []) ∨
    (∃ s b, v = .pointer (some ⟨s, 0, none⟩) ∧ w.cell? ⟨s, 0, none⟩ = some (.map (some b)) ∧ w.ownsMap Try.prog 3 keyElem b 64 (dat ks)))
theorem owns_blk {w w' : World} {P : Program} {k : TypeId} {R : Value → Option (DataW Key × List MemPlace)} {b n : Nat} {D : DataW Key} {B : Nat} (h : w.ownsMap P k R b n D) (hb : Below B w w') (hB : w.heap.size ≤ B) : w'.ownsMap P k R b n D := by
  have hlt := h.lt
  obtain ⟨es, clock, hh, rest⟩ := h
  exact ⟨es, clock, (hb.block b (Nat.lt_of_lt_of_le hlt hB)).trans hh, rest⟩
theorem Sch.below {B : Nat} {w w' : World} {v : Value} {ks : List Key} (h : Sch w v ks) (hb : Below B w w') (hB : w.heap.size ≤ B) : Sch w' v ks := by
  obtain ⟨hg, h⟩ := h
  refine ⟨hg, ?_⟩
  rcases h with h | ⟨s, rfl, hc, rfl⟩ | ⟨s, b, rfl, hc, ho⟩
  · exact .inl h
  · exact .inr (.inl ⟨s, rfl, (hb.cell (p := ⟨s, 0, none⟩) (Nat.lt_of_lt_of_le (World.block_lt_of_cell? w _ hc) hB)).trans hc, rfl⟩)
  · exact .inr (.inr ⟨s, b, rfl, (hb.cell (p := ⟨s, 0, none⟩) (Nat.lt_of_lt_of_le (World.block_lt_of_cell? w _ hc) hB)).trans hc, owns_blk ho hb hB⟩)
theorem kbelow_two (w : World) (o1 o2 : Obj) : Below w.heap.size w ((w.alloc o1).alloc o2) := ((Below.refl _ _).alloc (Nat.le_refl _) _).alloc (by simp) _

theorem keyedInt : Maps.Keyed Try.prog 3 := Maps.int_keyed Try.underlying3
theorem zeroKey (w : World) : (zeroValue 48).run Try.prog w = .ok (kv noKey) w := by kernel_rfl
theorem intKey {n : Int} (h : (Lit.int .i64 n).wf = true) : keyOf Try.prog 3 (.int .i64 n) = some (.int .i64 n) := Maps.keyOf_int_mk Try.underlying3 h

set_option maxRecDepth 100000 in
/-- 'v, ok := m[id]' of a schema's map: the run. -/
theorem look_key {w : World} {b n : Nat} {ks : List Key} (hA : Apart ks) (hown : w.ownsMap Try.prog 3 keyElem b n (dat ks)) {id : Int} (hw : (Lit.int .i64 id).wf = true) {kk : Key} {bb : Bool} (hk : (fnd ks id).getD noKey = kk) (hb : (fnd ks id).isSome = bb) :
    (Instr.lookup 53 (.map (some b)) (.int .i64 id) true).run Try.prog w = .ok (.tuple #[kv kk, .bool bb]) w := by
  obtain ⟨v, ps, hrun, hR⟩ := hown.look_ok keyedInt Try.underlying53 (zeroKey w) (keyElem_mk noKey) (intKey hw)
  obtain ⟨k', rfl, hz⟩ := keyElem_inv hR
  rw [dat_at hA, hk] at hz
  injection hz with h1 _
  injection h1 with h1
  subst h1
  rw [hrun, dat_has, hb]

set_option maxRecDepth 100000 in
theorem find_none (id : Int) (w : World) :
    Calls Try.prog 35 #[.pointer none, .int .i64 id] w fun e w' => e = .returned (fndV [] id) ∧ Below w.heap.size w w' := by
  go_enter Try.func35, Try.ntmps35
  go_wp2
  exact bodyPost_ret (v := .tuple #[kv noKey, .bool false]) (by simp [results, Try.results35, go_sem]) rfl ⟨rfl, (Below.refl _ _).alloc (Nat.le_refl _) _⟩

@[reducible] def zc : Array Value := #[.int .i64 0, .bool false, .int .u8 0, .bool false, .bool false, .int .i64 0]
theorem cell_on {w : World} {s : Nat} {v : Value} (hc : w.cell? ⟨s, 0, none⟩ = some v) (o : Obj) : (w.alloc o).cell? ⟨s, 0, none⟩ = some v :=
  (((Below.refl w.heap.size w).alloc (Nat.le_refl _) o).cell (p := ⟨s, 0, none⟩) (World.block_lt_of_cell? w _ hc)).trans hc

set_option maxRecDepth 100000 in
theorem find_any (v : Value) (ks : List Key) (id : Int) (w : World) (hs : Sch w v ks) (hw : (Lit.int .i64 id).wf = true) :
    Calls Try.prog 35 #[v, .int .i64 id] w fun e w' => e = .returned (fndV ks id) ∧ Below w.heap.size w w' := by
  obtain ⟨hg, h⟩ := hs
  rcases h with ⟨rfl, rfl⟩ | ⟨s, rfl, hc, rfl⟩ | ⟨s, b, rfl, hc, ho⟩
  · exact find_none id w
  · clear hg
    have hlk := Maps.look_nil (P := Try.prog) (w := w.alloc (.cells zc 48)) true keyedInt Try.underlying53 (zeroKey _) (intKey hw)
    simp only [if_true] at hlk
    have hc2 := cell_on hc (.cells zc 48)
    go_enter Try.func35, Try.ntmps35
    go_wp2
    exact bodyPost_ret (v := .tuple #[kv noKey, .bool false]) (by simp [results, Try.results35, go_sem]) rfl ⟨rfl, kbelow_two w _ _⟩
  · unfold fndV
    have hlk := fun (w' : World) (h : w'.ownsMap Try.prog 3 keyElem b 64 (dat ks)) => look_key hg.2 h hw rfl rfl
    generalize (fnd ks id).getD noKey = kk at hlk ⊢
    generalize (fnd ks id).isSome = bb at hlk ⊢
    have hlk2 := hlk _ (ho.alloc (.cells zc 48))
    have hc2 := cell_on hc (.cells zc 48)
    clear hlk hg ho hc
    obtain ⟨i1, i2, i3, i4, i5, i6⟩ := kk
    go_enter Try.func35, Try.ntmps35
    go_wp2
    exact bodyPost_ret (v := .tuple #[kv ⟨i1, i2, i3, i4, i5, i6⟩, .bool bb]) (by simp [results, Try.results35, go_sem]) rfl ⟨rfl, kbelow_two w _ _⟩
end Go.Proofs.Ytmbjjaflgdfihaa

/- S8: New -/
namespace Go.Proofs.Ytmbjjaflgdfihaa
open Go.RowKit
set_option linter.unusedVariables false

theorem make_map_hint {P : Program} {t k e : TypeId} (ht : P.underlying t = some (.map k e)) (q : IntKind) (n : Int) (w : World) : (Instr.makeMap t (some (.int q n))).run P w = .ok (.map (some w.heap.size)) (w.alloc (.map #[] 0)) := by
  simp [Instr.makeMap, run_underlying ht, asInt, asIntOf, Result.andThen]

/-- What New answers. -/
def NewPost (ks : List Key) (w : World) (e : Ending) (w' : World) : Prop :=
  Below w.heap.size w w' ∧ ((mayKs ks ∧ ∃ s, e = .returned (.tuple #[.pointer (some s), .int .i64 0]) ∧ Sch w' (.pointer (some s)) ks) ∨ (¬ mayKs ks ∧ e = .returned (.tuple #[.pointer none, .int .i64 3])))

@[reducible] def kca (k : Key) : Array Value := #[.int .i64 k.id, .bool k.blk, .int .u8 k.kind, .bool k.aft, .bool k.bef, .int .i64 k.grp]
/-- New's loop: k keys are in. -/
def NewRel (w : World) (ks : List Key) (k : Nat) (wr : World) : Prop :=
  Good (ks.take k) ∧ Below w.heap.size w wr ∧ w.heap.size + 2 ≤ wr.heap.size ∧ wr.cell? ⟨w.heap.size + 1, 0, none⟩ = some (.map (some w.heap.size)) ∧ wr.ownsMap Try.prog 3 keyElem w.heap.size k (dat (ks.take k))
theorem new_init (w : World) (ks : List Key) : NewRel w ks 0 ((w.alloc (.map #[] 0)).alloc (.cells #[.map (some w.heap.size)] 55)) := by
  refine ⟨good_nil, kbelow_two w _ _, by simp, ?_, (World.ownsMap_made w _ _ _).alloc _⟩
  have h := heap_alloc_new (w.alloc (.map #[] 0)) (.cells #[.map (some w.heap.size)] 55)
  simp only [World.size_alloc] at h
  rw [cell_of_row _ (w.heap.size + 1) 0 _ _ (0, 0) h]
  rfl
theorem new_good {w wr : World} {ks : List Key} (h : NewRel w ks ks.length wr) (hl : ks.length ≤ 64) : NewPost ks w (.returned (.tuple #[.pointer (some ⟨w.heap.size + 1, 0, none⟩), .int .i64 0])) wr := by
  obtain ⟨hg, hb, hz, hc, ho⟩ := h
  rw [List.take_of_length_le (Nat.le_refl _)] at hg ho
  exact ⟨hb, .inl ⟨⟨hl, hg⟩, _, rfl, hg, .inr (.inr ⟨_, _, rfl, hc, ho.mono hl⟩)⟩⟩
theorem new_bad {w wr w' : World} {ks : List Key} {k : Nat} (h : NewRel w ks k wr) (hb : Below wr.heap.size wr w') (hk : k < ks.length) (hn : (fnd (ks.take k) ks[k].id).isSome = true ∨ mayK ks[k] = false) :
    NewPost ks w (.returned (.tuple #[.pointer none, .int .i64 3])) w' :=
  ⟨below_add h.2.1 hb h.2.1.size, .inr ⟨fun hm => bad_step hk hn.symm hm.2, rfl⟩⟩
theorem new_step {w wr w1 w2 : World} {ks : List Key} {k : Nat} (h : NewRel w ks k wr) (hk : k < ks.length) (hf : (fnd (ks.take k) ks[k].id).isSome = false) (hm : mayK ks[k] = true)
    (hb : Below wr.heap.size wr w1) (ho : w2.ownsMap Try.prog 3 keyElem w.heap.size (k + 1) ((dat (ks.take k)).put (.int .i64 ks[k].id) (.held ks[k]))) (hg : w1.grownBy w2 (some w.heap.size)) : NewRel w ks (k + 1) w2 := by
  obtain ⟨h1, h2, h3, h4, h5⟩ := h
  have hb1 := below_add h2 hb h2.size
  have hlt : w.heap.size < w1.heap.size := by have := hb.size; omega
  refine ⟨good_step hk h1 hm (by simpa using hf), hb1.grown hg hb1.size (fun j hj => by cases hj; exact Nat.le_refl _), ?_, ?_, ?_⟩
  · have := hb.size; have := hg.size; omega
  · have hc := (hb.cell (p := ⟨w.heap.size + 1, 0, none⟩) (show w.heap.size + 1 < wr.heap.size by omega)).trans h4
    exact (World.cell?_of_block (a := ⟨w.heap.size + 1, 0, none⟩) (hg.block (w.heap.size + 1) (by have := hb.size; omega) (by simp))).trans hc
  · rw [ktake_snoc ks k hk, dat_snoc]; exact ho

theorem new_long (v : Value) (ks : List Key) (w : World) (hv : Krow w v ks) (hl : 64 < ks.length) :
    Calls Try.prog 6 #[v] w (NewPost ks w) := by
  have hb := hv.len
  obtain ⟨a, cap, rfl⟩ := hv.shape
  clear hv
  have hn : ¬ mayKs ks := fun h => by have := h.1; omega
  have hn := Lib.hid hn
  go_enter Try.func6, Try.ntmps6
  go_wp2
  go_ret2
  exact ⟨Below.refl _ _, .inr ⟨hn.out, rfl⟩⟩

set_option maxRecDepth 100000 in
theorem new_none (v : Value) (w : World) (hv : Krow w v []) :
    Calls Try.prog 6 #[v] w (NewPost [] w) := by
  obtain ⟨a, cap, rfl⟩ := hv.shape
  clear hv
  have hmm := fun q n w => make_map_hint (P := Try.prog) Try.underlying53 q n w
  go_enter Try.func6, Try.ntmps6
  go_wp2
  refine wp_loop_rounds 1 ?_
  rw [rounds_succ]
  go_wp2
  go_ret2
  exact new_good (new_init w []) (by simp)

set_option maxRecDepth 100000 in
set_option maxHeartbeats 1000000 in
theorem new_some (v : Value) (ks : List Key) (w : World) (hv : Krow w v ks) (hl : ks.length ≤ 64) (h0 : 0 < ks.length) (hW : ∀ k ∈ ks, KeyW k) :
    Calls Try.prog 6 #[v] w (NewPost ks w) := by
  obtain ⟨a, cap, rfl⟩ := hv.shape
  obtain ⟨b, off, rfl, -, -, -, hbl, hat⟩ := hv.opened h0
  clear hv
  have hmm := fun q n w => make_map_hint (P := Try.prog) Try.underlying53 q n w
  have hat := Lib.hid hat
  have h11 : decide ((64 : Int) < (ks.length : Int)) = false := by rw [decide_eq_false_iff_not]; omega
  go_enter Try.func6, Try.ntmps6
  go_wp2
  go_loopw [19] (fun i wr => ∃ k : Nat, k ≤ ks.length ∧ i = .int .i64 k ∧ NewRel w ks k wr) (fun i _ => ks.length - (intOf i).toNat)
  case atStart => exact ⟨0, Nat.zero_le _, rfl, new_init w ks⟩
  case round =>
    obtain ⟨k, hk, rfl, hR⟩ := hrel
    clear hmm
    by_cases hlt : k < ks.length
    · obtain ⟨c0, c1, c2, c3, c4, c5⟩ := (hat.out k hlt).below hR.2.1 hbl
      have hwf := (hW ks[k] (List.getElem_mem hlt)).id
      have HKM := fun w => keymay_any ks[k] w
      have hlk := fun (W : World) (h : W.ownsMap Try.prog 3 keyElem w.heap.size k (dat (ks.take k))) => look_key hR.1.2 h hwf rfl rfl
      have hst := fun (w1 w2 : World) (h1 : (fnd (ks.take k) ks[k].id).isSome = false) (h2 : mayK ks[k] = true) => new_step (w1 := w1) (w2 := w2) hR hlt h1 h2
      have hbd := fun (w2 : World) (hb : Below wr.heap.size wr w2) => new_bad hR hb hlt
      have hown := hR.2.2.2.2
      have hcs := hR.2.2.2.1
      generalize ks[k] = kx at *
      generalize (fnd (ks.take k) kx.id).getD noKey = kk at hlk
      generalize (fnd (ks.take k) kx.id).isSome = bb at hlk hst hbd
      generalize mayK kx = mm at HKM hst hbd
      have HKM := Lib.hid HKM
      have hst := Lib.hid hst
      have hbd := Lib.hid hbd
      obtain ⟨x1, x2, x3, x4, x5, x6⟩ := kx
      obtain ⟨y1, y2, y3, y4, y5, y6⟩ := kk
      have hl1 := hlk _ ((hown.alloc (.cells #[.int .i64 x1, .bool x2, .int .u8 x3, .bool x4, .bool x5, .int .i64 x6] 48)).drew)
      have hl2 := hlk _ (((hown.alloc (.cells #[.int .i64 x1, .bool x2, .int .u8 x3, .bool x4, .bool x5, .int .i64 x6] 48)).alloc (.cells zc 48)).drew)
      have hs1 := cell_on hcs (.cells #[.int .i64 x1, .bool x2, .int .u8 x3, .bool x4, .bool x5, .int .i64 x6] 48)
      have hs2 := cell_on hs1 (.cells zc 48)
      have HO := Lib.hid hown
      clear hlk hR hcs hown
      simp only at c0 c1 c2 c3 c4 c5 hl1 hl2
      go_wp2
      go_region
      all_goals
        have hB2 : Below wr.heap.size wr ((wr.alloc (.cells #[.int .i64 x1, .bool x2, .int .u8 x3, .bool x4, .bool x5, .int .i64 x6] 48)).alloc (.cells #[.int .i64 y1, .bool y2, .int .u8 y3, .bool y4, .bool y5, .int .i64 y6] 48)).drew := (kbelow_two wr _ _).drew
        have hsY := cell_on hs1 (.cells #[.int .i64 y1, .bool y2, .int .u8 y3, .bool y4, .bool y5, .int .i64 y6] 48)
        have hoY : ((wr.alloc (.cells #[.int .i64 x1, .bool x2, .int .u8 x3, .bool x4, .bool x5, .int .i64 x6] 48)).alloc (.cells #[.int .i64 y1, .bool y2, .int .u8 y3, .bool y4, .bool y5, .int .i64 y6] 48)).drew.ownsMap Try.prog 3 keyElem w.heap.size k (dat (ks.take k)) := ((HO.out.alloc _).alloc _).drew
        have hbY : KBox wr.heap.size ⟨x1, x2, x3, x4, x5, x6⟩ ((wr.alloc (.cells #[.int .i64 x1, .bool x2, .int .u8 x3, .bool x4, .bool x5, .int .i64 x6] 48)).alloc (.cells #[.int .i64 y1, .bool y2, .int .u8 y3, .bool y4, .bool y5, .int .i64 y6] 48)).drew := (KBox.box ⟨x1, x2, x3, x4, x5, x6⟩ wr 48).below (((Below.refl _ _).alloc (Nat.le_refl _) _).drew) (by simp)
        have hsY : ((wr.alloc (.cells #[.int .i64 x1, .bool x2, .int .u8 x3, .bool x4, .bool x5, .int .i64 x6] 48)).alloc (.cells #[.int .i64 y1, .bool y2, .int .u8 y3, .bool y4, .bool y5, .int .i64 y6] 48)).drew.cell? ⟨w.heap.size + 1, 0, none⟩ = some (.map (some w.heap.size)) := hsY
        have hzY : ((wr.alloc (.cells #[.int .i64 x1, .bool x2, .int .u8 x3, .bool x4, .bool x5, .int .i64 x6] 48)).alloc (.cells #[.int .i64 y1, .bool y2, .int .u8 y3, .bool y4, .bool y5, .int .i64 y6] 48)).drew.heap.size = wr.heap.size + 2 := by simp
        clear hl1 hl2 hs1 hs2 c0 c1 c2 c3 c4 c5
        generalize ((wr.alloc (.cells #[.int .i64 x1, .bool x2, .int .u8 x3, .bool x4, .bool x5, .int .i64 x6] 48)).alloc (.cells #[.int .i64 y1, .bool y2, .int .u8 y3, .bool y4, .bool y5, .int .i64 y6] 48)).drew = W at *
        have hzW : wr.heap.size < W.heap.size := by omega
        have hsW := World.block_lt_of_cell? _ _ hsY
        clear hzY
        cases bb
        · cases mm
          · go_wp2_with (go_at_call 14; ((with_reducible refine (HKM.out _).mono ?_); rintro e w1 ⟨rfl, hb1⟩))
            go_ret2
            exact hbd.out _ (below_add hB2 hb1 hB2.size) (.inr trivial)
          · go_wp2_with (go_at_call 14; ((with_reducible refine (HKM.out _).mono ?_); rintro e w1 ⟨rfl, hb1⟩))
            have hs3 := (hb1.cell (p := ⟨w.heap.size + 1, 0, none⟩) hsW).trans hsY
            have ho3 := owns_blk hoY hb1 (Nat.le_refl _)
            obtain ⟨d0, d1, d2, d3, d4, d5⟩ := hbY.below hb1 hzW
            have hB3 := below_add hB2 hb1 hB2.size
            clear hbY hoY hsY
            simp only at d0 d1 d2 d3 d4 d5
            go_still_tail 7, (by kernel_rfl)
            change wpList _ _ _ _ _ w1.drew
            go_wp2_with (at_mapUpdate; refine wpList_mapUpdate_own _ rfl _ _ _ 53 rfl 3 48 keyedInt Try.underlying53 keyElem w.heap.size k (dat (ks.take k)) rfl ho3.drew (by have := hl; unfold maxLen; omega) (.int .i64 x1) (kv ⟨x1, x2, x3, x4, x5, x6⟩) (.int .i64 x1) rfl rfl (intKey hwf) (.held ⟨x1, x2, x3, x4, x5, x6⟩) [] (keyElem_mk ⟨x1, x2, x3, x4, x5, x6⟩) ?_; intro w2 hown2 hgrow2)
            go_roundw
            case rel => exact ⟨k + 1, by omega, by go_num, hst.out w1.drew w2 trivial trivial hB3.drew hown2 hgrow2⟩
            case measure => simp [intOf]; omega
        · go_wp2
          go_ret2
          exact hbd.out _ hB2 (.inl trivial)
    · obtain rfl : k = ks.length := by omega
      have hR := Lib.hid hR
      go_wp2
      go_ret2
      exact new_good hR.out hl

/-- New, whatever the keys. -/
theorem new_any (v : Value) (ks : List Key) (w : World) (hv : Krow w v ks) (hW : ∀ k ∈ ks, KeyW k) :
    Calls Try.prog 6 #[v] w (NewPost ks w) := by
  by_cases hl : 64 < ks.length
  · exact new_long v ks w hv hl
  · by_cases h0 : 0 < ks.length
    · exact new_some v ks w hv (by omega) h0 hW
    · obtain rfl : ks = [] := List.eq_nil_of_length_eq_zero (by omega)
      exact new_none v w hv
end Go.Proofs.Ytmbjjaflgdfihaa

/- S12: Fits, and the reference's -/
namespace Go.Proofs.Ytmbjjaflgdfihaa
open Go.RowKit
set_option linter.unusedVariables false

def fitsB (ks : List Key) (id : Int) (k n f : Int) (s : ByteArray) : Bool :=
  match fnd ks id with
  | none => false
  | some key => (k == key.kind) && vmay k n f s
theorem fitsB_none {ks : List Key} {id k n f : Int} {s : ByteArray} (h : fnd ks id = none) : fitsB ks id k n f s = false := by unfold fitsB; rw [h]
theorem fitsB_some {ks : List Key} {id k n f : Int} {s : ByteArray} {key : Key} (h : fnd ks id = some key) : fitsB ks id k n f s = ((k == key.kind) && vmay k n f s) := by unfold fitsB; rw [h]

set_option maxRecDepth 100000 in
theorem fits_any (v : Value) (ks : List Key) (id : Int) (k n f : Int) (s : ByteArray) (w : World) (hs : Sch w v ks) (hw : (Lit.int .i64 id).wf = true) (h0 : 0 ≤ f) (h1 : f < 18446744073709551616) :
    Calls Try.prog 34 #[v, .int .i64 id, val k n f s] w fun e w' => e = .returned (.bool (fitsB ks id k n f s)) ∧ Below w.heap.size w w' := by
  have hB := (Below.refl w.heap.size w).alloc (Nat.le_refl _) (.cells (vcells k n f s) 44)
  have hA := At.box k n f s w 44
  have HF := find_any v ks id _ (hs.below hB (Nat.le_refl _)) hw
  have HM := fun w => vmay_any k n f s w h0 h1
  cases hf : fnd ks id with
  | none =>
    rw [fndV_none hf] at HF
    rw [fitsB_none hf]
    have HF := Lib.hid HF
    clear hf hs HM
    go_enter Try.func34, Try.ntmps34
    go_wp2_with (go_at_call 35; ((with_reducible refine HF.out.mono ?_); rintro e w1 ⟨rfl, hb1⟩))
    go_ret
    exact ⟨rfl, (below_add hB hb1 hB.size).alloc (below_add hB hb1 hB.size).size _⟩
  | some key =>
    rw [fndV_some hf] at HF
    rw [fitsB_some hf]
    have HF := Lib.hid HF
    generalize vmay k n f s = m at HM ⊢
    have HM := Lib.hid HM
    clear hf hs
    obtain ⟨k1, k2, k3, k4, k5, k6⟩ := key
    simp only
    by_cases q : k = k3
    · subst q
      go_enter Try.func34, Try.ntmps34
      go_wp2_with (first
        | (go_at_call 35; ((with_reducible refine HF.out.mono ?_); rintro e w1 ⟨rfl, hb1⟩; have hA1 := (hA.below hb1).below ((Below.refl _ _).alloc (Nat.le_refl _) (.cells (kca ⟨k1, k2, k, k4, k5, k6⟩) 48)); have hC := (below_add hB hb1 hB.size).alloc (below_add hB hb1 hB.size).size (.cells (kca ⟨k1, k2, k, k4, k5, k6⟩) 48)))
        | (go_at_call 48; ((with_reducible refine (HM.out _).mono ?_); rintro e w2 ⟨rfl, hb2⟩)))
      go_ret
      exact ⟨by simp, below_add hC hb2 hC.size⟩
    · have d : (k == k3) = false := by simpa using q
      rw [d, Bool.false_and]
      clear q
      go_enter Try.func34, Try.ntmps34
      go_wp2_with (first
        | (go_at_call 35; ((with_reducible refine HF.out.mono ?_); rintro e w1 ⟨rfl, hb1⟩; have hA1 := (hA.below hb1).below ((Below.refl _ _).alloc (Nat.le_refl _) (.cells (kca ⟨k1, k2, k3, k4, k5, k6⟩) 48)); have hC := (below_add hB hb1 hB.size).alloc (below_add hB hb1 hB.size).size (.cells (kca ⟨k1, k2, k3, k4, k5, k6⟩) 48))))
      go_ret
      exact ⟨rfl, hC⟩

end Go.Proofs.Ytmbjjaflgdfihaa

/- S25: New of keys that may be, of keys that may not -/
namespace Go.Proofs.Ytmbjjaflgdfihaa
open Go.RowKit
set_option linter.unusedVariables false

theorem krow_built (w : World) (t : TypeId) (ks : List Key) (hm : ks.length ≤ maxLen) : Krow (w.alloc (.cells (flat ks).toArray t)) (.slice (some ⟨w.heap.size, 0, none⟩) ks.length ks.length) ks := by
  by_cases h0 : ks = []
  · subst h0; exact .inl ⟨_, 0, rfl, rfl, by simp, by simp⟩
  · refine .inr ⟨_, 0, _, rfl, List.length_pos_iff.2 h0, Nat.le_refl _, hm, fun j u hu => ?_⟩
    rw [cell_of_row (w.alloc (.cells (flat ks).toArray t)) w.heap.size (0 + j) _ t (0, 0) (heap_alloc_new w _), ← hu]
    simp

/-- New of keys that may be; of keys that may not. -/
theorem new_yes {v : Value} {ks : List Key} {w : World} (hv : Krow w v ks) (hW : ∀ k ∈ ks, KeyW k) (hm : mayKs ks) :
    Calls Try.prog 6 #[v] w fun e w' => ∃ s, e = .returned (.tuple #[.pointer (some s), .int .i64 0]) ∧ Sch w' (.pointer (some s)) ks ∧ Below w.heap.size w w' :=
  (new_any v ks w hv hW).mono fun e w' h => by
    obtain ⟨hb, ⟨_, s, he, hs⟩ | ⟨hn, _⟩⟩ := h
    · exact ⟨s, he, hs, hb⟩
    · exact absurd hm hn
theorem new_no {v : Value} {ks : List Key} {w : World} (hv : Krow w v ks) (hW : ∀ k ∈ ks, KeyW k) (hm : ¬ mayKs ks) :
    Calls Try.prog 6 #[v] w fun e w' => e = .returned (.tuple #[.pointer none, .int .i64 3]) ∧ Below w.heap.size w w' :=
  (new_any v ks w hv hW).mono fun e w' h => by
    obtain ⟨hb, ⟨hy, _⟩ | ⟨_, he⟩⟩ := h
    · exact absurd hy hm
    · exact ⟨he, hb⟩
end Go.Proofs.Ytmbjjaflgdfihaa

/- S18: a slice of keys that came in -/
namespace Go.Proofs.Ytmbjjaflgdfihaa
open Go.RowKit Go.ChangeShapes Go.WideShapes Go.Deep
set_option linter.unusedVariables false

section
variable {H : Type} {enc : TypeId × Value → H} {w : World} {base : Nat} {spare : Nat → Bool} {held : Bool}

theorem key_fields : Try.prog.underlying 48 = some (.struct (Try.prog.fieldsOf 48)) := by kernel_rfl
theorem key_one : oneCellFields Try.prog (Try.prog.fieldsOf 48) = true := by kernel_rfl
theorem key_cells : Try.prog.cellsOf 48 = 6 := by kernel_rfl
theorem key_types : (Try.prog.fieldsOf 48).map (·.type) = #[3, 4, 5, 4, 4, 3] := by kernel_rfl

theorem key_size : (Try.prog.fieldsOf 48).size = 6 := by kernel_rfl

/-- A key's six cells, from what was read of it. -/
theorem open_key {n : Nat} {cs : List Value} {y : DataW H × List MemPlace} (h : DataW.trod enc Try.prog w base spare held n 48 cs = some y) : ∃ k : Key, KeyW k ∧ cs = kc k := by
  obtain ⟨ys, m, -, -, hlen, hys, hf⟩ := DataW.trod_struct key_fields h
  rw [key_cells] at hlen
  rw [key_size] at hys
  have hj : ∀ (j : Nat) (t : TypeId), (#[3, 4, 5, 4, 4, 3] : Array TypeId)[j]? = some t → DataW.trod enc Try.prog w base spare held m t ((cs.drop j).take 1) = ys[j]? := by
    intro j t hjt
    rw [← key_types, Array.getElem?_map, Option.map_eq_some_iff] at hjt
    obtain ⟨f, hfj, rfl⟩ := hjt
    obtain ⟨ho, hk⟩ := hone_of key_one j f hfj
    have := hf j f hfj
    rwa [ho, hk] at this
  clear hf h
  match cs, hlen with
  | [c0, c1, c2, c3, c4, c5], _ =>
    match ys, hys with
    | [y0, y1, y2, y3, y4, y5], _ =>
      have h0 : DataW.trod enc Try.prog w base spare held m 3 [c0] = some y0 := hj 0 _ rfl
      have h1 : DataW.trod enc Try.prog w base spare held m 4 [c1] = some y1 := hj 1 _ rfl
      have h2 : DataW.trod enc Try.prog w base spare held m 5 [c2] = some y2 := hj 2 _ rfl
      have h3 : DataW.trod enc Try.prog w base spare held m 4 [c3] = some y3 := hj 3 _ rfl
      have h4 : DataW.trod enc Try.prog w base spare held m 4 [c4] = some y4 := hj 4 _ rfl
      have h5 : DataW.trod enc Try.prog w base spare held m 3 [c5] = some y5 := hj 5 _ rfl
      obtain ⟨a0, e0, -, w0⟩ := DataW.trod_int Try.underlying3 h0
      obtain ⟨a1, e1, -⟩ := DataW.trod_bool Try.underlying4 h1
      obtain ⟨a2, e2, -, w2⟩ := DataW.trod_int Try.underlying5 h2
      obtain ⟨a3, e3, -⟩ := DataW.trod_bool Try.underlying4 h3
      obtain ⟨a4, e4, -⟩ := DataW.trod_bool Try.underlying4 h4
      obtain ⟨a5, e5, -, w5⟩ := DataW.trod_int Try.underlying3 h5
      simp only [List.cons.injEq, and_true] at e0 e1 e2 e3 e4 e5
      subst e0 e1 e2 e3 e4 e5
      exact ⟨⟨a0, a1, a2, a3, a4, a5⟩, ⟨w0, w2, w5⟩, rfl⟩

/-- A slice of keys that came in reads as keys. -/
theorem open_keys {n : Nat} {v : Value} {x : DataW H × List MemPlace} (h : DataW.trod enc Try.prog w base spare held n 22 [v] = some x) : ∃ ks, Krow w v ks ∧ ∀ k ∈ ks, KeyW k := by
  rcases open_slice Try.underlying22 h with ⟨hcs, -⟩ | ⟨a, len, cap, m, n', D, Pl, hcs, -, hl, hm, hmm, -, hi⟩
  · injection hcs with hv _
    subst hv
    exact ⟨[], Krow.nil w, by simp⟩
  · injection hcs with hv _
    subst hv
    have hlm : len ≤ m := by rw [hmm]; split <;> omega
    have hex : ∀ i, i < len → ∃ k : Key, KeyW k ∧ ∀ j u, (kc k)[j]? = some u → w.cell? (a.add (i * 6 + j)) = some u := by
      intro i hil
      obtain ⟨cs', hc, ht⟩ := hi i (by omega)
      obtain ⟨k, hw, rfl⟩ := open_key ht
      rw [key_cells] at hc
      obtain ⟨-, hcl, hat⟩ := World.cells?_some hc
      refine ⟨k, hw, fun j u hu => ?_⟩
      have hj : j < 6 := by have := (List.getElem?_eq_some_iff.1 hu).1; simpa using this
      have := hat j hj
      rw [hu, add_add] at this
      exact this
    have hex2 : ∀ i : Fin len, ∃ k : Key, KeyW k ∧ ∀ j u, (kc k)[j]? = some u → w.cell? (a.add (i.1 * 6 + j)) = some u := fun i => hex i.1 i.2
    obtain ⟨f, hf⟩ := Classical.axiomOfChoice hex2
    have hlen : (List.ofFn f).length = len := by simp
    refine ⟨List.ofFn f, ?_, fun k hk => ?_⟩
    · by_cases h0 : len = 0
      · subst h0
        exact .inl ⟨some a, cap, rfl, by simp, hm, by simp⟩
      · obtain ⟨b, off, spot⟩ := a
        have hspot : spot = none := by
          have := (hf ⟨0, by omega⟩).2 0 _ rfl
          simpa [Addr.add] using World.cell?_spot this
        subst hspot
        refine .inr ⟨b, off, cap, by rw [hlen], by omega, by omega, hm, fun j u hu => ?_⟩
        have hjl : j < len * 6 := by
          have := (List.getElem?_eq_some_iff.1 hu).1
          rwa [flat_len, hlen] at this
        have e1 : j / 6 * 6 + j % 6 = j := by omega
        have hd : j / 6 < len := by omega
        have g := flat_get (List.ofFn f) (j / 6) (j % 6) (by omega) (by omega)
        rw [e1, hu] at g
        have := (hf ⟨j / 6, hd⟩).2 (j % 6) u (by rw [g]; simp)
        rw [e1, Go.WideShapes.add_plain] at this
        exact this
    · obtain ⟨i, rfl⟩ := List.mem_ofFn.1 hk
      exact (hf i).1
end
end Go.Proofs.Ytmbjjaflgdfihaa
