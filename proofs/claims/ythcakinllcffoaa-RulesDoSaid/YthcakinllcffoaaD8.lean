
import Derived.Test.YthcakinllcffoaaD7
import Derived.Deep.AppendLies
import Derived.BigQuiet
import Derived.Deep.QuietTactic
import Derived.RegionTactic
import Derived.Lib.AppendZeros
import Derived.Laws.Cover3
import Derived.WalkMore
import Derived.Deep.RegionHeld3
import Derived.Shelf.Abstract
import Derived.Deep.Slices
import Derived.Deep.Fields
import Derived.ChangeArms
import Derived.ChangeSame
import Derived.ChangeMaps5
import Derived.Lib.SmallJoins
import Derived.OpenShut
import Derived.SizedLaws
/- A1: rows of whatever lies in m cells -/
namespace Go.Proofs.Ythcakinllcffoaa
open Go.RowKit
set_option linter.unusedVariables false

/-- How an element lies: m cells, each whole. -/
structure Cel (α : Type) where
  c : α → List Value
  m : Nat
  len : ∀ x, (c x).length = m
  one : ∀ x, ∀ u ∈ c x, u.oneCell' = true
  pos : 0 < m

section
variable {α : Type} (C : Cel α)
def fl (xs : List α) : List Value := xs.flatMap C.c
theorem fl_nil : fl C [] = [] := rfl
theorem fl_cons (x : α) (r : List α) : fl C (x :: r) = C.c x ++ fl C r := rfl
theorem fl_app (a b : List α) : fl C (a ++ b) = fl C a ++ fl C b := by simp [fl]
theorem fl_one (x : α) : fl C [x] = C.c x := by simp [fl]
theorem fl_len : ∀ xs : List α, (fl C xs).length = xs.length * C.m
  | [] => by simp [fl]
  | x :: r => by rw [fl_cons, List.length_append, fl_len r, C.len, List.length_cons, Nat.add_mul]; omega
theorem fl_ones (xs : List α) : ∀ u ∈ fl C xs, u.oneCell' = true := by
  intro u hu
  obtain ⟨x, _, hx⟩ := List.mem_flatMap.1 hu
  exact C.one x u hx
theorem fl_get : ∀ (xs : List α) (j i : Nat) (hj : j < xs.length), i < C.m → (fl C xs)[j * C.m + i]? = (C.c xs[j])[i]?
  | x :: r, 0, i, _, hi => by
    rw [fl_cons, List.getElem?_append_left (by rw [C.len]; omega)]
    simp
  | x :: r, j + 1, i, hj, hi => by
    have e : (j + 1) * C.m + i = C.m + (j * C.m + i) := by rw [Nat.add_mul]; omega
    rw [fl_cons, List.getElem?_append_right (by rw [C.len]; omega)]
    have : (j + 1) * C.m + i - (C.c x).length = j * C.m + i := by rw [C.len]; omega
    rw [this, fl_get r j i (by simpa using hj) hi]
    simp
/-- A slice that reads as xs. -/
def Row (w : World) (v : Value) (xs : List α) : Prop :=
  (∃ a cap, v = .slice a 0 cap ∧ xs = [] ∧ cap ≤ maxLen ∧ (a = none → cap = 0)) ∨
  ∃ b off cap, v = .slice (some ⟨b, off, none⟩) xs.length cap ∧ 0 < xs.length ∧ xs.length ≤ cap ∧ cap ≤ maxLen ∧
    (∀ j u, (fl C xs)[j]? = some u → w.cell? ⟨b, off + j, none⟩ = some u)
variable {C}
theorem Row.below {B : Nat} {w w' : World} {v : Value} {xs : List α} (h : Row C w v xs) (hb : Below B w w') (hB : w.heap.size ≤ B) : Row C w' v xs := by
  rcases h with h | ⟨b, off, cap, rfl, h0, h1, h2, h3⟩
  · exact .inl h
  · refine .inr ⟨b, off, cap, rfl, h0, h1, h2, fun j u hu => ?_⟩
    have := h3 j u hu
    rw [← this]
    exact hb.cell (p := ⟨b, off + j, none⟩) (Nat.lt_of_lt_of_le (World.block_lt_of_cell? w _ this) hB)
theorem Row.shape {w : World} {v : Value} {xs : List α} (h : Row C w v xs) : ∃ a cap, v = .slice a xs.length cap := by
  rcases h with ⟨a, cap, rfl, rfl, hm, _⟩ | ⟨b, off, cap, rfl, h0, h1, hm, hc⟩
  · exact ⟨a, cap, rfl⟩
  · exact ⟨_, _, rfl⟩
theorem Row.len {w : World} {v : Value} {xs : List α} (h : Row C w v xs) : xs.length ≤ 9223372036854775807 := by
  rcases h with ⟨a, cap, rfl, rfl, _⟩ | ⟨b, off, cap, rfl, h0, h1, h2, h3⟩
  · simp
  · unfold maxLen at h2; omega
theorem Row.nil (w : World) : Row C w (.slice none 0 0) [] := .inl ⟨none, 0, rfl, rfl, by simp, fun _ => rfl⟩
theorem Row.opened {w : World} {a : Option Addr} {n cap : Nat} {xs : List α} (h : Row C w (.slice a n cap) xs) (h0 : 0 < xs.length) :
    ∃ b off, a = some ⟨b, off, none⟩ ∧ n = xs.length ∧ xs.length ≤ cap ∧ cap ≤ maxLen ∧ b < w.heap.size ∧
      (∀ j (hj : j < xs.length) i u, (C.c xs[j])[i]? = some u → w.cell? ⟨b, off + j * C.m + i, none⟩ = some u) ∧ (∀ j u, (fl C xs)[j]? = some u → w.cell? ⟨b, off + j, none⟩ = some u) := by
  rcases h with ⟨a, cap, hv, rfl, _⟩ | ⟨b, off, cap', hv, _, h1, hm, hc⟩
  · simp at h0
  · injection hv with e1 e2 e3
    subst e1 e2 e3
    have hat : ∀ j (hj : j < xs.length) i u, (C.c xs[j])[i]? = some u → w.cell? ⟨b, off + j * C.m + i, none⟩ = some u := fun j hj i u hu => by
      have hi : i < C.m := by have := (List.getElem?_eq_some_iff.1 hu).1; rwa [C.len] at this
      have := hc (j * C.m + i) u ((fl_get C xs j i hj hi).trans hu)
      rwa [← Nat.add_assoc] at this
    have hb : b < w.heap.size := by
      have hp : 0 < (C.c xs[0]).length := by rw [C.len]; exact C.pos
      exact World.block_lt_of_cell? w _ (hat 0 h0 0 _ (List.getElem?_eq_getElem hp))
    exact ⟨b, off, rfl, rfl, h1, hm, hb, hat, hc⟩
/-- A row that the call owns reads as what it owns. -/
theorem Row.of_owns {w : World} {base : Nat} {e : TypeId} {v : Value} {n : Nat} {xs : List α} (h : w.ownsRow base e C.m v n (fl C xs)) : Row C w v xs ∧ n = xs.length := by
  have hn : n = xs.length := by have := h.1; rw [fl_len] at this; exact (Nat.eq_of_mul_eq_mul_right C.pos this).symm
  subst hn
  refine ⟨?_, rfl⟩
  by_cases hx : xs = []
  · subst hx
    rcases h.2 with ⟨rfl, _⟩ | ⟨g, cap, cur, rfl, hb, hg, hc, hm, _⟩
    · exact .inl ⟨none, 0, rfl, rfl, by simp, fun _ => rfl⟩
    · exact .inl ⟨_, cap, rfl, rfl, hm, by simp⟩
  · have hpos : 0 < xs.length := List.length_pos_iff.2 hx
    rcases h.2 with ⟨rfl, h0⟩ | ⟨g, cap, cur, hv, hb, hg, hc, hm, _⟩
    · omega
    · subst hv
      refine .inr ⟨g, 0, cap, rfl, hpos, hc, hm, fun j u hu => ?_⟩
      have := h.cells (g := g) rfl j u hu
      rw [Go.WideShapes.add_plain] at this
      simpa using this
/-- The block of a row that the call owns lies from its base on. -/
theorem own_base {w : World} {base : Nat} {e : TypeId} {size : Nat} {v : Value} {n : Nat} {xs : List Value} (h : w.ownsRow base e size v n xs) {k : Nat} (hk : v.ownBlock = some k) : base ≤ k := by
  rcases h.2 with ⟨rfl, _⟩ | ⟨g, cap, cur, rfl, hb, _⟩
  · simp [Value.ownBlock] at hk
  · simp [Value.ownBlock] at hk; omega
theorem Row.built (w : World) (t : TypeId) (xs : List α) (hm : xs.length ≤ maxLen) : Row C (w.alloc (.cells (fl C xs).toArray t)) (.slice (some ⟨w.heap.size, 0, none⟩) xs.length xs.length) xs := by
  by_cases h0 : xs = []
  · subst h0; exact .inl ⟨_, 0, rfl, rfl, by simp, by simp⟩
  · refine .inr ⟨_, 0, _, rfl, List.length_pos_iff.2 h0, Nat.le_refl _, hm, fun j u hu => ?_⟩
    rw [cell_of_row (w.alloc (.cells (fl C xs).toArray t)) w.heap.size (0 + j) _ t (0, 0) (heap_alloc_new w _), ← hu]
    simp
theorem row_mid_len (xs : List α) {lo hi : Nat} (h1 : lo ≤ hi) (h2 : hi ≤ xs.length) : ((xs.take hi).drop lo).length = hi - lo := by rw [List.length_drop, List.length_take]; omega
/-- A part of a slice, as Go cuts it. -/
theorem Row.mid {w : World} {a : Option Addr} {n cap lo hi : Nat} {xs : List α} (h : Row C w (.slice a n cap) xs) (h1 : lo ≤ hi) (h2 : hi ≤ xs.length) :
    Row C w (sliced a lo hi cap C.m) ((xs.take hi).drop lo) := by
  have hl := row_mid_len xs h1 h2
  have hcm : cap ≤ maxLen ∧ (a = none → cap = 0) ∧ xs.length ≤ cap := by
    rcases h with ⟨a', cap', hv', hx, hm, hn⟩ | ⟨b, off, cap', hv', _, hc, hm, _⟩
    · injection hv' with e1 e2 e3; subst e1 e3; subst hx; exact ⟨hm, hn, by simp⟩
    · injection hv' with e1 e2 e3; subst e1 e3; exact ⟨hm, by simp, hc⟩
  unfold sliced
  by_cases h0 : lo = hi
  · subst h0
    refine .inl ⟨_, cap - lo, by rw [Nat.sub_self], by apply List.drop_eq_nil_of_le; rw [List.length_take]; omega, by omega, fun hn => ?_⟩
    split at hn
    · have := hcm.2.1 hn; omega
    · have := hcm.2.1 (by simpa using hn); omega
  · obtain ⟨b, off, ha, hn, hx, hm, hbl, -, hcc⟩ := h.opened (by omega)
    subst ha
    rw [if_neg (by omega)]
    refine .inr ⟨b, off + lo * C.m, cap - lo, ?_, by omega, by omega, by omega, fun j u hu => ?_⟩
    · rw [hl, Option.map_some, Go.WideShapes.add_plain]
    · have hj : j < (hi - lo) * C.m := by
        have := (List.getElem?_eq_some_iff.1 hu).1
        rwa [fl_len, hl] at this
      have e : fl C xs = fl C (xs.take lo) ++ (fl C ((xs.take hi).drop lo) ++ fl C (xs.drop hi)) := by
        rw [← fl_app, ← fl_app]
        congr 1
        have e2 : xs.take lo = (xs.take hi).take lo := by rw [List.take_take, Nat.min_eq_left h1]
        rw [e2, ← List.append_assoc, List.take_append_drop, List.take_append_drop]
      have hlo : (fl C (xs.take lo)).length = lo * C.m := by rw [fl_len, List.length_take, Nat.min_eq_left (by omega)]
      have : (fl C xs)[lo * C.m + j]? = some u := by
        rw [e, List.getElem?_append_right (by omega), hlo, Nat.add_sub_cancel_left, List.getElem?_append_left (by rw [fl_len, hl]; exact hj)]
        exact hu
      rw [Nat.add_assoc]
      exact hcc _ _ this
theorem Row.headed {w : World} {a : Option Addr} {n cap hi : Nat} {xs : List α} (h : Row C w (.slice a n cap) xs) (h2 : hi ≤ xs.length) : Row C w (sliced a 0 hi cap C.m) (xs.take hi) := by
  have := h.mid (Nat.zero_le hi) h2
  simpa using this
theorem Row.tailed {w : World} {a : Option Addr} {n cap lo : Nat} {xs : List α} (h : Row C w (.slice a n cap) xs) (h1 : lo ≤ xs.length) : Row C w (sliced a lo xs.length cap C.m) (xs.drop lo) := by
  have := h.mid h1 (Nat.le_refl _)
  rwa [List.take_of_length_le (Nat.le_refl _)] at this

theorem Row.head {w : World} {a : Option Addr} {n cap hi : Nat} {xs : List α} (h : Row C w (.slice a n cap) xs) (h2 : hi ≤ xs.length) : Row C w (.slice a hi cap) (xs.take hi) := by
  have := h.headed h2
  unfold sliced at this
  have e : (if cap = 0 then a else a.map (·.add (0 * C.m))) = a := by
    split
    · rfl
    · rw [Nat.zero_mul]
      cases a with
      | none => rfl
      | some x => obtain ⟨b, o, s⟩ := x; simp [Addr.add]
  rw [e] at this
  simpa using this
theorem Row.tail {w : World} {a : Option Addr} {n cap lo : Nat} {xs : List α} (h : Row C w (.slice a n cap) xs) (h1 : lo ≤ xs.length) :
    (cap = lo → Row C w (.slice a (xs.length - lo) 0) (xs.drop lo)) ∧ (¬ cap = lo → Row C w (.slice (a.map fun x => x.add (lo * C.m)) (xs.length - lo) (cap - lo)) (xs.drop lo)) := by
  have := h.tailed h1
  unfold sliced at this
  refine ⟨fun hc => ?_, fun hc => ?_⟩
  · rw [if_pos hc, hc, Nat.sub_self] at this; exact this
  · rw [if_neg hc] at this; exact this

/-- append(out, src...): out the call's own, src whatever slice, nil too. -/
theorem wpList_append_row {P : Program} {w : World} {ops : Array Oper} {rest : List Oper} {o : Oper} {a : Act} {Q : Exit → Act → World → Prop} (hgd : o.guard = none) (s x : Operand) (t : TypeId)
    (ho : o.op = .call { callee := .builtin .append, args := #[s, x], argTypes := #[t, t] })
    (base : Nat) (e : TypeId) (i : TypeInfo) (z : Value) (bytes : Nat) (ht : P.underlying t = some (.slice e)) (hi : P.info? e = some i) (hz : i.zero = some z)
    (hsize : i.size = C.m) (hby : i.bytes = bytes) (hzs : z.cells.size = C.m)
    (v : Value) (n : Nat) (cs : List Value) (hs : a.eval s = v) (hown : w.ownsRow base e C.m v n cs)
    (u : Value) (ys : List α) (hx : a.eval x = u) (hu : Row C w u ys)
    (h63 : n + ys.length ≤ maxLen) (hbytes : (n + ys.length) * bytes ≤ 140737488355328) (hbase : base ≤ w.heap.size)
    (h : ∀ v' w', w'.ownsRow base e C.m v' (n + ys.length) (cs ++ fl C ys) → w.grownBy w' v.ownBlock → wpList P ops Q rest (a.put o.dst v') w') : wpList P ops Q (o :: rest) a w := by
  rcases hu with ⟨ad, cap, rfl, rfl, hm, hc0⟩ | ⟨b, off, cap, rfl, h0, h1, hm, hc⟩
  · cases ad with
    | none =>
      obtain rfl := hc0 rfl
      exact wpList_append_own_none hgd s x t ho base e i C.m ht hi v n cs hs hown hx (h v w (by simpa [fl_nil] using hown) (grown_refl _ _))
    | some ad =>
      exact wpList_append_own w hgd s x t ho base e i z C.m bytes ht hi hz hsize hby hzs C.pos v n cs hs hown ad 0 cap [] hx (by simp) (by intro j u hj; simp at hj) (by intro u hu; cases hu) h63 hbytes hbase (fun v' w' q1 q2 _ => h v' w' (by simpa [fl_nil] using q1) q2)
  · refine wpList_append_own w hgd s x t ho base e i z C.m bytes ht hi hz hsize hby hzs C.pos v n cs hs hown ⟨b, off, none⟩ ys.length cap (fl C ys) hx (fl_len C ys) ?_ (fl_ones C ys) h63 hbytes hbase (fun v' w' q1 q2 _ => h v' w' q1 q2)
    intro j u hj
    rw [Go.WideShapes.add_plain]
    exact hc j u hj
end
section
variable {P : Program} {ops : Array Oper} {C : World → Prop} {Q : Act → Prop} {a : Act} {o : Oper} {rest : List Oper}
/-- The class walk, closed in a structure: else each tactic that looks at its goal's head runs the region. -/
structure WQ (P : Program) (ops : Array Oper) (C : World → Prop) (Q : Act → Prop) (l : List Oper) (a : Act) : Prop where
  out : wpQuiet P ops C Q l a
theorem region_classw {id : Nat} {Q' : Exit → Act → World → Prop} {w : World} {l : List Oper} (hm : P.follows .mixedOrders = true) (hB : Region.lexB .any l.toArray = true) (hC : C w.drew)
    (h : WQ P l.toArray C (fun a' => ∀ w', C w' → Q' .normal a' w') l a) : (Code.region id l.toArray true).wp P Q' a w := region_class hm hB hC h.out
theorem w_skip {j : Nat} {want : Bool} (hg : o.guard = some (j, want)) (hy : yielded ops a.tmps j = some (!want)) (k : WQ P ops C Q rest (a.put o.dst undef)) : WQ P ops C Q (o :: rest) a :=
  ⟨q_skip (by unfold Region.wanted; rw [hg]; simp only [hy]; cases want <;> rfl) k.out⟩
theorem w_skipn {j : Nat} {want : Bool} (hg : o.guard = some (j, want)) (hy : yielded ops a.tmps j = none) (k : WQ P ops C Q rest (a.put o.dst undef)) : WQ P ops C Q (o :: rest) a :=
  ⟨q_skip (by unfold Region.wanted; rw [hg]; simp only [hy]; rfl) k.out⟩
theorem w_valg {j : Nat} {want : Bool} {v : Value} (hg : o.guard = some (j, want)) (hy : yielded ops a.tmps j = some want) (hv : ∀ w, C w → (execOp a.eval o).run P w = .ok (.value v) w) (k : WQ P ops C Q rest (a.put o.dst v)) : WQ P ops C Q (o :: rest) a :=
  ⟨q_val (by unfold Region.wanted; rw [hg]; simp only [hy]; cases want <;> rfl) hv k.out⟩
theorem w_val {v : Value} (hg : o.guard = none) (hv : ∀ w, C w → (execOp a.eval o).run P w = .ok (.value v) w) (k : WQ P ops C Q rest (a.put o.dst v)) : WQ P ops C Q (o :: rest) a :=
  ⟨q_val (by unfold Region.wanted; rw [hg]) hv k.out⟩
theorem w_callg {j : Nat} {want : Bool} {v : Value} {f : FuncId} {args : Array Value} (hg : o.guard = some (j, want)) (hy : yielded ops a.tmps j = some want) (hv : ∀ w, C w → (execOp a.eval o).run P w = .ok (.enter f args) w)
    (hc : ∀ w, C w → Calls P f args w fun e w' => e = .returned v ∧ C w') (k : WQ P ops C Q rest (a.put o.dst v)) : WQ P ops C Q (o :: rest) a :=
  ⟨q_call (by unfold Region.wanted; rw [hg]; simp only [hy]; cases want <;> rfl) hv hc k.out⟩
theorem w_call {v : Value} {f : FuncId} {args : Array Value} (hg : o.guard = none) (hv : ∀ w, C w → (execOp a.eval o).run P w = .ok (.enter f args) w)
    (hc : ∀ w, C w → Calls P f args w fun e w' => e = .returned v ∧ C w') (k : WQ P ops C Q rest (a.put o.dst v)) : WQ P ops C Q (o :: rest) a :=
  ⟨q_call (by unfold Region.wanted; rw [hg]) hv hc k.out⟩
theorem w_end (h : Q a) : WQ P ops C Q [] a := ⟨q_end h⟩
end

end Go.Proofs.Ythcakinllcffoaa

/- A2: attributes as plain data -/
namespace Go.Proofs.Ythcakinllcffoaa
open Go.RowKit
set_option linter.unusedVariables false

/-- An attribute: its key, and the value's kind, number, bits, text. -/
structure Att where
  key : Int
  k : Int
  n : Int
  f : Int
  s : ByteArray
deriving DecidableEq

@[reducible] def av (a : Att) : Value := .agg #[.int .i64 a.key, .int .u8 a.k, .int .i64 a.n, .int .u64 a.f, .string a.s]
@[reducible] def ac (a : Att) : List Value := [.int .i64 a.key, .int .u8 a.k, .int .i64 a.n, .int .u64 a.f, .string a.s]
@[reducible] def aca (a : Att) : Array Value := #[.int .i64 a.key, .int .u8 a.k, .int .i64 a.n, .int .u64 a.f, .string a.s]
@[reducible] def noAtt : Att := ⟨0, 0, 0, 0, ⟨#[]⟩⟩
instance : Inhabited Att := ⟨noAtt⟩
/-- An attribute's value. -/
@[reducible] def vv (a : Att) : Value := val a.k a.n a.f a.s

theorem ac_one (a : Att) : ∀ u ∈ ac a, u.oneCell' = true := by
  intro u hu
  simp at hu
  rcases hu with rfl | rfl | rfl | rfl | rfl <;> rfl
/-- How an attribute lies: five cells. -/
def attC : Cel Att := ⟨ac, 5, fun _ => rfl, ac_one, by decide⟩
theorem attC_m : attC.m = 5 := rfl
theorem attC_c (a : Att) : attC.c a = ac a := rfl

/-- What an attribute's numbers are within. -/
structure AttW (a : Att) : Prop where
  key : (Lit.int .i64 a.key).wf = true
  k : (Lit.int .u8 a.k).wf = true
  n : (Lit.int .i64 a.n).wf = true
  f : (Lit.int .u64 a.f).wf = true
  s : a.s.size ≤ maxLen
theorem AttW.f0 {a : Att} (h : AttW a) : 0 ≤ a.f := by have := Go.bounds_u64 h.f; omega
theorem AttW.f1 {a : Att} (h : AttW a) : a.f < 18446744073709551616 := by have := Go.bounds_u64 h.f; omega

/-- Its five cells at a place; at a block's head. -/
@[reducible] def AAt (b o : Nat) (a : Att) (w : World) : Prop :=
  w.cell? ⟨b, o, none⟩ = some (.int .i64 a.key) ∧ w.cell? ⟨b, o + 1, none⟩ = some (.int .u8 a.k) ∧ w.cell? ⟨b, o + 2, none⟩ = some (.int .i64 a.n) ∧ w.cell? ⟨b, o + 3, none⟩ = some (.int .u64 a.f) ∧ w.cell? ⟨b, o + 4, none⟩ = some (.string a.s)
@[reducible] def ABox (b : Nat) (a : Att) (w : World) : Prop :=
  w.cell? ⟨b, 0, none⟩ = some (.int .i64 a.key) ∧ w.cell? ⟨b, 1, none⟩ = some (.int .u8 a.k) ∧ w.cell? ⟨b, 2, none⟩ = some (.int .i64 a.n) ∧ w.cell? ⟨b, 3, none⟩ = some (.int .u64 a.f) ∧ w.cell? ⟨b, 4, none⟩ = some (.string a.s)
theorem AAt.below {B b o : Nat} {a : Att} {w w' : World} (h : AAt b o a w) (hb : Below B w w') (hB : b < B) : AAt b o a w' := by
  obtain ⟨h0, h1, h2, h3, h4⟩ := h
  exact ⟨(hb.cell (p := ⟨b, _, none⟩) hB).trans h0, (hb.cell (p := ⟨b, _, none⟩) hB).trans h1, (hb.cell (p := ⟨b, _, none⟩) hB).trans h2, (hb.cell (p := ⟨b, _, none⟩) hB).trans h3, (hb.cell (p := ⟨b, _, none⟩) hB).trans h4⟩
theorem ABox.below {B b : Nat} {a : Att} {w w' : World} (h : ABox b a w) (hb : Below B w w') (hB : b < B) : ABox b a w' := by
  obtain ⟨h0, h1, h2, h3, h4⟩ := h
  exact ⟨(hb.cell (p := ⟨b, _, none⟩) hB).trans h0, (hb.cell (p := ⟨b, _, none⟩) hB).trans h1, (hb.cell (p := ⟨b, _, none⟩) hB).trans h2, (hb.cell (p := ⟨b, _, none⟩) hB).trans h3, (hb.cell (p := ⟨b, _, none⟩) hB).trans h4⟩
theorem ABox.box (a : Att) (w : World) (t : TypeId) : ABox w.heap.size a (w.alloc (.cells (aca a) t)) := by
  refine ⟨?_, ?_, ?_, ?_, ?_⟩ <;> (rw [cell_of_row _ w.heap.size _ _ t (0, 0) (heap_alloc_new w _)]; rfl)
theorem ABox.lt {b : Nat} {a : Att} {w : World} (h : ABox b a w) : b < w.heap.size := World.block_lt_of_cell? w _ h.1

/-- A slice of attributes that reads as xs. -/
@[reducible] def Arow (w : World) (v : Value) (xs : List Att) : Prop := Row attC w v xs
theorem Arow.opn {w : World} {a : Option Addr} {n cap : Nat} {xs : List Att} (h : Arow w (.slice a n cap) xs) (h0 : 0 < xs.length) :
    ∃ b off, a = some ⟨b, off, none⟩ ∧ n = xs.length ∧ xs.length ≤ cap ∧ cap ≤ maxLen ∧ b < w.heap.size ∧ (∀ j (hj : j < xs.length), AAt b (off + j * 5) xs[j] w) := by
  obtain ⟨b, off, ha, hn, hc, hm, hb, hat, -⟩ := Row.opened h h0
  refine ⟨b, off, ha, hn, hc, hm, hb, fun j hj => ⟨?_, ?_, ?_, ?_, ?_⟩⟩
  · exact hat j hj 0 _ rfl
  · exact hat j hj 1 _ rfl
  · exact hat j hj 2 _ rfl
  · exact hat j hj 3 _ rfl
  · exact hat j hj 4 _ rfl

/-- The elements' type, as the program lays it. -/
theorem info_att : Try.prog.info? 64 = Try.prog.info? 64 := rfl

def aeq (a b : Att) : Bool := (a.key == b.key) && ((a.k == b.k) && (a.n == b.n) && (a.f == b.f) && (a.s.toList == b.s.toList))
theorem aeq_iff (a b : Att) : aeq a b = true ↔ a = b := by
  obtain ⟨a1, a2, a3, a4, a5⟩ := a
  obtain ⟨b1, b2, b3, b4, b5⟩ := b
  have hs : a5.toList = b5.toList ↔ a5 = b5 := by
    rw [ByteArray.toList_eq, ByteArray.toList_eq]
    exact ⟨fun h => Go.WideShapes.bytes_inj h, fun h => by rw [h]⟩
  simp [aeq, hs, and_assoc]
theorem aeq_dec (a b : Att) : aeq a b = decide (a = b) := by
  rw [Bool.eq_iff_iff, aeq_iff]; simp

set_option maxRecDepth 100000 in
theorem att_in (a b : Att) (w : World) : (Op.equalIn 10000 64 (av a) (av b)).run Try.prog w = .ok (aeq a b) w := by
  obtain ⟨a1, a2, a3, a4, a5⟩ := a
  obtain ⟨b1, b2, b3, b4, b5⟩ := b
  have hS : Try.prog.underlying 64 = some (.struct (Try.prog.fieldsOf 64)) := by kernel_rfl
  have hp : Try.prog.stoodInHeld 64 = false := by kernel_rfl
  have u0 := Try.underlying3
  have ag0 := Try.isAgg3
  have ag5 := Try.isAgg47
  have z0 := Try.sizeOf3
  have z5 := Try.sizeOf47
  rw [show (10000 : Nat) = 9999 + 1 from rfl, run_equalIn_agg w 9999 64 _ _ hS hp]
  simp only [Program.fieldsOf, Try.underlying64]
  simp only [Op.eqFields, ne_eq]
  go_simp
  unfold aeq
  by_cases h1 : a1 = b1 <;> by_cases h2 : a2 = b2 <;> by_cases h3 : a3 = b3 <;> by_cases h4 : a4 = b4 <;> by_cases h5 : a5.toList = b5.toList <;> simp [h1, h2, h3, h4, h5]
theorem att_eql (a b : Att) (w : World) : (binOp .eql 64 (av a) (av b)).run Try.prog w = .ok (.bool (aeq a b)) w := by
  rw [run_eql_struct, att_in]; rfl
theorem att_neq (a b : Att) (w : World) : (binOp .neq 64 (av a) (av b)).run Try.prog w = .ok (.bool (!aeq a b)) w := by
  rw [run_neq_struct, att_in]; rfl
end Go.Proofs.Ythcakinllcffoaa

/- A3: sets held against one another; great; rising -/
namespace Go.Proofs.Ythcakinllcffoaa
open Go.RowKit
set_option linter.unusedVariables false

theorem atake_snoc {xs : List Att} {k : Nat} (h : k < xs.length) : xs.take (k + 1) = xs.take k ++ [xs[k]] := by
  rw [List.take_succ_eq_append_getElem h]
theorem eq_step {xs ys : List Att} {k : Nat} (h1 : k < xs.length) (h2 : k < ys.length) (h : xs.take k = ys.take k) (he : xs[k] = ys[k]) : xs.take (k + 1) = ys.take (k + 1) := by
  rw [atake_snoc h1, atake_snoc h2, h, he]
theorem eq_end {xs ys : List Att} (hl : xs.length = ys.length) (h : xs.take xs.length = ys.take xs.length) : xs = ys := by
  rw [List.take_of_length_le (Nat.le_refl _), hl, List.take_of_length_le (Nat.le_refl _)] at h; exact h
theorem eq_bad {xs ys : List Att} {k : Nat} (h1 : k < xs.length) (h2 : k < ys.length) (he : ¬ xs[k] = ys[k]) : ¬ xs = ys := by
  intro h; subst h; exact he rfl
theorem dec_yes {p : Prop} [Decidable p] (h : p) : Ending.returned (.bool true) = .returned (.bool (decide p)) := by rw [decide_eq_true h]
theorem dec_no {p : Prop} [Decidable p] (h : ¬ p) : Ending.returned (.bool false) = .returned (.bool (decide p)) := by rw [decide_eq_false h]

set_option maxRecDepth 100000 in
theorem equal_any (v1 v2 : Value) (xs ys : List Att) (w : World) (h1 : Arow w v1 xs) (h2 : Arow w v2 ys) :
    Calls Try.prog 62 #[v1, v2] w fun e w' => e = .returned (.bool (decide (xs = ys))) ∧ ∃ q, w' = w.drewN q := by
  have hl1 := h1.len
  have hl2 := h2.len
  obtain ⟨a1, cap1, rfl⟩ := h1.shape
  obtain ⟨a2, cap2, rfl⟩ := h2.shape
  by_cases hl : xs.length = ys.length
  · by_cases h0 : 0 < xs.length
    · obtain ⟨b1, o1, rfl, -, -, -, -, hat1⟩ := Arow.opn h1 h0
      obtain ⟨b2, o2, rfl, -, -, -, -, hat2⟩ := Arow.opn h2 (by omega)
      clear h1 h2
      have H1 := Lib.hid hat1
      have H2 := Lib.hid hat2
      have HL := Lib.hid hl
      clear hat1 hat2
      rw [← hl]
      clear hl hl2
      go_enter Try.func62, Try.ntmps62
      go_wp2
      go_loopw [13] (fun i wr => ∃ k q : Nat, k ≤ xs.length ∧ i = .int .i64 k ∧ wr = w.drewN q ∧ Hid (xs.take k = ys.take k)) (fun i _ => xs.length - (intOf i).toNat)
      case atStart => exact ⟨0, 0, Nat.zero_le _, rfl, rfl, Lib.hid rfl⟩
      case round =>
        obtain ⟨k, q, hk, rfl, rfl, HP⟩ := hrel
        by_cases hlt : k < xs.length
        · have hlt2 : k < ys.length := by rw [← HL.out]; exact hlt
          obtain ⟨c0, c1, c2, c3, c4⟩ := H1.out k hlt
          obtain ⟨d0, d1, d2, d3, d4⟩ := H2.out k hlt2
          have hS := fun h => eq_step hlt hlt2 HP.out h
          have hE := fun h => eq_bad hlt hlt2 h
          have hD : aeq xs[k] ys[k] = decide (xs[k] = ys[k]) := aeq_dec _ _
          have hq := fun w => att_neq xs[k] ys[k] w
          generalize xs[k] = x at *
          generalize ys[k] = y at *
          by_cases hxy : x = y
          · have HS := Lib.hid (hS hxy)
            have e1 : aeq x y = true := by rw [hD]; simp [hxy]
            rw [e1] at hq
            obtain ⟨x1, x2, x3, x4, x5⟩ := x
            obtain ⟨y1, y2, y3, y4, y5⟩ := y
            clear hS hE hD e1 hxy
            simp only at c0 c1 c2 c3 c4 d0 d1 d2 d3 d4 hq
            go_wp2
            go_quiet (fail)
            go_wp2
            go_roundw
            case rel => exact ⟨k + 1, q + nq, by omega, by go_num, by simp, HS⟩
            case measure => simp [intOf]; omega
          · have HS := Lib.hid (hE hxy)
            have e1 : aeq x y = false := by rw [hD]; simp [hxy]
            rw [e1] at hq
            obtain ⟨x1, x2, x3, x4, x5⟩ := x
            obtain ⟨y1, y2, y3, y4, y5⟩ := y
            clear hS hE hD e1 hxy
            simp only at c0 c1 c2 c3 c4 d0 d1 d2 d3 d4 hq
            go_wp2
            go_quiet (fail)
            go_wp2
            go_ret
            exact ⟨dec_no HS.out, q + nq, by simp⟩
        · obtain rfl : k = xs.length := by omega
          have HE := Lib.hid (eq_end HL.out HP.out)
          clear HP
          go_wp2
          go_ret
          exact ⟨dec_yes HE.out, _, rfl⟩
    · obtain rfl : xs = [] := List.eq_nil_of_length_eq_zero (by omega)
      obtain rfl : ys = [] := List.eq_nil_of_length_eq_zero (by simpa using hl.symm)
      clear h1 h2 h0 hl hl1 hl2
      go_enter Try.func62, Try.ntmps62
      go_wp2
      refine wp_loop_rounds 1 ?_
      rw [rounds_succ]
      go_wp2
      go_ret
      exact ⟨rfl, 0, rfl⟩
  · have HN := Lib.hid (show ¬ xs = ys from fun h => hl (by rw [h]))
    have e1 : ((xs.length : Int) != (ys.length : Int)) = true := by simp; omega
    clear h1 h2
    go_enter Try.func62, Try.ntmps62
    go_wp2
    go_ret
    exact ⟨dec_no HN.out, 0, rfl⟩

theorem same_any5 (v1 v2 : Value) (xs ys : List Att) (w : World) (h1 : Arow w v1 xs) (h2 : Arow w v2 ys) :
    Calls Try.prog 40 #[v1, v2] w fun e w' => e = .returned (.bool (decide (xs = ys))) ∧ Below w.heap.size w w' := by
  have HE := Lib.hid (equal_any v1 v2 xs ys w h1 h2)
  clear h1 h2
  go_enter Try.func40, Try.ntmps40
  go_wp2_with (go_at_call 62; ((with_reducible refine HE.out.mono ?_); rintro e w1 ⟨rfl, q, rfl⟩))
  go_ret
  exact ⟨rfl, blw_drewN (Below.refl _ _) q⟩
end Go.Proofs.Ythcakinllcffoaa

/- A4: the reference's Same, great, Rising -/
namespace Go.Proofs.Ythcakinllcffoaa
open Go.RowKit
set_option linter.unusedVariables false

set_option maxRecDepth 100000 in
theorem rsame_any5 (v1 v2 : Value) (xs ys : List Att) (w : World) (h1 : Arow w v1 xs) (h2 : Arow w v2 ys) :
    Calls Try.prog 20 #[v1, v2] w fun e w' => e = .returned (.bool (decide (xs = ys))) ∧ ∃ q, w' = w.drewN q := by
  have hl1 := h1.len
  have hl2 := h2.len
  obtain ⟨a1, cap1, rfl⟩ := h1.shape
  obtain ⟨a2, cap2, rfl⟩ := h2.shape
  by_cases hl : xs.length = ys.length
  · by_cases h0 : 0 < xs.length
    · obtain ⟨b1, o1, rfl, -, -, -, -, hat1⟩ := Arow.opn h1 h0
      obtain ⟨b2, o2, rfl, -, -, -, -, hat2⟩ := Arow.opn h2 (by omega)
      clear h1 h2
      have H1 := Lib.hid hat1
      have H2 := Lib.hid hat2
      have HL := Lib.hid hl
      clear hat1 hat2
      rw [← hl]
      clear hl hl2
      go_enter Try.func20, Try.ntmps20
      go_wp2
      go_loopw [5] (fun i wr => ∃ k q : Nat, k ≤ xs.length ∧ i = .int .i64 k ∧ wr = w.drewN q ∧ Hid (xs.take k = ys.take k)) (fun i _ => xs.length - (intOf i).toNat)
      case atStart => exact ⟨0, 0, Nat.zero_le _, rfl, rfl, Lib.hid rfl⟩
      case round =>
        obtain ⟨k, q, hk, rfl, rfl, HP⟩ := hrel
        by_cases hlt : k < xs.length
        · have hlt2 : k < ys.length := by rw [← HL.out]; exact hlt
          obtain ⟨c0, c1, c2, c3, c4⟩ := H1.out k hlt
          obtain ⟨d0, d1, d2, d3, d4⟩ := H2.out k hlt2
          have hS := fun h => eq_step hlt hlt2 HP.out h
          have hE := fun h => eq_bad hlt hlt2 h
          have hD : aeq xs[k] ys[k] = decide (xs[k] = ys[k]) := aeq_dec _ _
          have hq := fun w => att_neq xs[k] ys[k] w
          generalize xs[k] = x at *
          generalize ys[k] = y at *
          by_cases hxy : x = y
          · have HS := Lib.hid (hS hxy)
            have e1 : aeq x y = true := by rw [hD]; simp [hxy]
            rw [e1] at hq
            obtain ⟨x1, x2, x3, x4, x5⟩ := x
            obtain ⟨y1, y2, y3, y4, y5⟩ := y
            clear hS hE hD e1 hxy
            simp only at c0 c1 c2 c3 c4 d0 d1 d2 d3 d4 hq
            go_wp2
            go_quiet (fail)
            go_wp2
            go_roundw
            case rel => exact ⟨k + 1, q + nq, by omega, by go_num, by simp, HS⟩
            case measure => simp [intOf]; omega
          · have HS := Lib.hid (hE hxy)
            have e1 : aeq x y = false := by rw [hD]; simp [hxy]
            rw [e1] at hq
            obtain ⟨x1, x2, x3, x4, x5⟩ := x
            obtain ⟨y1, y2, y3, y4, y5⟩ := y
            clear hS hE hD e1 hxy
            simp only at c0 c1 c2 c3 c4 d0 d1 d2 d3 d4 hq
            go_wp2
            go_quiet (fail)
            go_wp2
            go_ret
            exact ⟨dec_no HS.out, q + nq, by simp⟩
        · obtain rfl : k = xs.length := by omega
          have HE := Lib.hid (eq_end HL.out HP.out)
          clear HP
          go_wp2
          go_ret
          exact ⟨dec_yes HE.out, _, rfl⟩
    · obtain rfl : xs = [] := List.eq_nil_of_length_eq_zero (by omega)
      obtain rfl : ys = [] := List.eq_nil_of_length_eq_zero (by simpa using hl.symm)
      clear h1 h2 h0 hl hl1 hl2
      go_enter Try.func20, Try.ntmps20
      go_wp2
      refine wp_loop_rounds 1 ?_
      rw [rounds_succ]
      go_wp2
      go_ret
      exact ⟨rfl, 0, rfl⟩
  · have HN := Lib.hid (show ¬ xs = ys from fun h => hl (by rw [h]))
    have e1 : ((xs.length : Int) != (ys.length : Int)) = true := by simp; omega
    clear h1 h2
    go_enter Try.func20, Try.ntmps20
    go_wp2
    go_ret
    exact ⟨dec_no HN.out, 0, rfl⟩


/-- Keys rise. -/
def Rise (xs : List Att) : Prop := xs.Pairwise (fun a b => a.key < b.key)
instance (xs : List Att) : Decidable (Rise xs) := by unfold Rise; infer_instance
theorem rise_nil : Rise [] := List.Pairwise.nil
theorem rise_step {xs : List Att} {k : Nat} (h : k + 1 < xs.length) (hr : Rise (xs.take (k + 1))) (hl : xs[k].key < xs[k + 1].key) : Rise (xs.take (k + 1 + 1)) := by
  rw [atake_snoc h]
  refine List.pairwise_append.2 ⟨hr, by simp, fun a ha b hb => ?_⟩
  simp at hb
  subst hb
  rw [atake_snoc (by omega : k < xs.length)] at ha hr
  rcases List.mem_append.1 ha with ha | ha
  · have := (List.pairwise_append.1 hr).2.2 a ha xs[k] (by simp)
    omega
  · simp at ha; subst ha; exact hl
theorem rise_bad {xs : List Att} {k : Nat} (h : k + 1 < xs.length) (hl : ¬ xs[k].key < xs[k + 1].key) : ¬ Rise xs := fun hr =>
  hl (List.pairwise_iff_getElem.1 hr k (k + 1) (by omega) h (by omega))
theorem rise_end {xs : List Att} (hr : Rise (xs.take xs.length)) : Rise xs := by rwa [List.take_of_length_le (Nat.le_refl _)] at hr
theorem rise_one {xs : List Att} : Rise (xs.take (0 + 1)) := by
  cases xs with
  | nil => exact rise_nil
  | cons x r => simp [Rise]

set_option maxRecDepth 100000 in
theorem rising_any5 (v : Value) (xs : List Att) (w : World) (h1 : Arow w v xs) :
    Calls Try.prog 12 #[v] w fun e w' => e = .returned (.bool (decide (Rise xs))) ∧ ∃ q, w' = w.drewN q := by
  have hl1 := h1.len
  obtain ⟨a1, cap1, rfl⟩ := h1.shape
  by_cases h0 : 0 < xs.length
  · obtain ⟨b1, o1, rfl, -, -, -, -, hat1⟩ := Arow.opn h1 h0
    clear h1
    have H1 := Lib.hid hat1
    clear hat1
    go_enter Try.func12, Try.ntmps12
    go_wp2
    go_loopw [3] (fun i wr => ∃ k q : Nat, k + 1 ≤ xs.length ∧ i = .int .i64 ((k : Int) + 1) ∧ wr = w.drewN q ∧ Hid (Rise (xs.take (k + 1)))) (fun i _ => xs.length - (intOf i).toNat)
    case atStart => exact ⟨0, 0, h0, rfl, rfl, Lib.hid rise_one⟩
    case round =>
      obtain ⟨k, q, hk, rfl, rfl, HP⟩ := hrel
      by_cases hlt : k + 1 < xs.length
      · obtain ⟨c0, -, -, -, -⟩ := H1.out k (by omega)
        obtain ⟨d0, -, -, -, -⟩ := H1.out (k + 1) hlt
        have hS := fun h => rise_step hlt HP.out h
        have hB := fun h => rise_bad hlt h
        generalize xs[k].key = x at *
        generalize xs[k + 1].key = y at *
        by_cases hxy : x < y
        · have HS := Lib.hid (hS hxy)
          have e1 : decide (y ≤ x) = false := by rw [decide_eq_false_iff_not]; omega
          clear hS hB hxy
          go_wp2
          go_quiet (fail)
          go_wp2
          go_roundw
          case rel => exact ⟨k + 1, q + nq, by omega, by go_num, by simp, HS⟩
          case measure => simp [intOf]; omega
        · have HS := Lib.hid (hB hxy)
          have e1 : decide (y ≤ x) = true := by rw [decide_eq_true_iff]; omega
          clear hS hB hxy
          go_wp2
          go_quiet (fail)
          go_wp2
          go_ret
          exact ⟨dec_no HS.out, q + nq, by simp⟩
      · have hkk : xs.length = k + 1 := by omega
        have HE := Lib.hid (rise_end (by rw [hkk]; exact HP.out))
        clear HP
        go_wp2
        go_ret
        exact ⟨dec_yes HE.out, _, rfl⟩
  · obtain rfl : xs = [] := List.eq_nil_of_length_eq_zero (by omega)
    clear h1 h0 hl1
    go_enter Try.func12, Try.ntmps12
    go_wp2
    refine wp_loop_rounds 1 ?_
    rw [rounds_succ]
    go_wp2
    go_ret
    exact ⟨rfl, 0, rfl⟩
end Go.Proofs.Ythcakinllcffoaa

/- A5: a set searched by halves -/
namespace Go.Proofs.Ythcakinllcffoaa
open Go.RowKit
set_option linter.unusedVariables false

theorem clo_any (xs : List Att) (v : Value) (key : Int) (i B0 B1 : Nat) (w : World) (hi : i < xs.length) (h0 : w.cell? ⟨B0, 0, none⟩ = some v) (h1 : w.cell? ⟨B1, 0, none⟩ = some (.int .i64 key)) (hv : Arow w v xs) :
    Calls Try.prog 83 #[.int .i64 i, .pointer (some ⟨B0, 0, none⟩), .pointer (some ⟨B1, 0, none⟩)] w fun e w' => e = .returned (.bool (decide (key ≤ xs[i].key))) ∧ ∃ q, w' = w.drewN q := by
  have hl1 := hv.len
  obtain ⟨a1, cap1, rfl⟩ := hv.shape
  obtain ⟨b1, o1, rfl, -, -, -, -, hat1⟩ := Arow.opn hv (by omega)
  obtain ⟨c0, -, -, -, -⟩ := hat1 i hi
  clear hat1 hv
  generalize xs[i].key = x at *
  go_enter Try.func83, Try.ntmps83
  go_wp2
  go_quiet (fail)
  go_wp2
  go_ret
  exact ⟨rfl, nq, rfl⟩

/-- What Search answers: a place at which what is asked turns from false to true. -/
def Turn (p : Nat → Bool) (n i : Nat) : Prop := i ≤ n ∧ (i < n → p i = true) ∧ (0 < i → p (i - 1) = false)

set_option maxRecDepth 100000 in
theorem search_any (n : Nat) (p : Nat → Bool) (c0 c1 : Value) (w : World) (hsz : n ≤ 1000000)
    (hf : ∀ q i, i < n → Calls Try.prog 83 #[.int .i64 i, c0, c1] (w.drewN q) fun e w' => e = .returned (.bool (p i)) ∧ ∃ q', w' = (w.drewN q).drewN q') :
    Calls Try.prog 82 #[.int .i64 n, .func (.func 83) #[] #[c0, c1]] w fun e w' => ∃ i : Nat, Turn p n i ∧ e = .returned (.int .i64 i) ∧ ∃ q, w' = w.drewN q := by
  have HF := Lib.hid hf
  clear hf
  have eg : ∀ args w, (callFunc 83 args).run Try.prog w = .ok (.enter 83 args) w := enters_of Try.func83 (by kernel_rfl) rfl
  go_enter Try.func82, Try.ntmps82
  go_wp2
  go_loopw [5, 6] (fun s5 s6 wr => ∃ lo hi q : Nat, s5 = .int .i64 lo ∧ s6 = .int .i64 hi ∧ lo ≤ hi ∧ hi ≤ n ∧ wr = w.drewN q ∧ Hid ((hi < n → p hi = true) ∧ (0 < lo → p (lo - 1) = false))) (fun s5 s6 _ => (intOf s6 - intOf s5).toNat)
  case atStart => exact ⟨0, n, 0, rfl, rfl, Nat.zero_le _, Nat.le_refl _, rfl, Lib.hid ⟨fun h => absurd h (Nat.lt_irrefl _), fun h => absurd h (Nat.lt_irrefl _)⟩⟩
  case round =>
    obtain ⟨lo, hi, q, rfl, rfl, hlh, hin, rfl, I⟩ := hrel
    by_cases hlt : lo < hi
    · have hc := HF.out q ((lo + hi) / 2) (by omega)
      rw [show (((lo + hi) / 2 : Nat) : Int) = ((lo : Int) + (hi : Int)) / 2 by omega] at hc
      cases hp : p ((lo + hi) / 2)
      · rw [hp] at hc
        have HP := Lib.hid hp
        clear hp
        go_wp2_with (go_at_call 83; refine hc.mono ?_; rintro e w' ⟨rfl, nq, rfl⟩)
        go_roundw
        case rel => exact ⟨(lo + hi) / 2 + 1, hi, q + nq, by rw [show ((lo : Int) + (hi : Int)) / 2 + 1 = (((lo + hi) / 2 + 1 : Nat) : Int) by omega], rfl, by omega, hin, by simp, Lib.hid ⟨I.out.1, fun _ => by rw [Nat.add_sub_cancel]; exact HP.out⟩⟩
        case measure => simp [intOf]; omega
      · rw [hp] at hc
        have HP := Lib.hid hp
        clear hp
        go_wp2_with (go_at_call 83; refine hc.mono ?_; rintro e w' ⟨rfl, nq, rfl⟩)
        go_roundw
        case rel => exact ⟨lo, (lo + hi) / 2, q + nq, rfl, by rw [show ((lo : Int) + (hi : Int)) / 2 = (((lo + hi) / 2 : Nat) : Int) by omega], by omega, by omega, by simp, Lib.hid ⟨fun _ => HP.out, I.out.2⟩⟩
        case measure => simp [intOf]; omega
    · obtain rfl : hi = lo := by omega
      go_wp2
      go_ret
      exact ⟨hi, ⟨hin, I.out.1, I.out.2⟩, rfl, q, rfl⟩
end Go.Proofs.Ythcakinllcffoaa

/- A6: where a key stands -/
namespace Go.Proofs.Ythcakinllcffoaa
open Go.RowKit
set_option linter.unusedVariables false

def geAt (xs : List Att) (key : Int) (i : Nat) : Bool := decide (key ≤ (xs.getD i noAtt).key)
theorem geAt_of {xs : List Att} {key : Int} {i : Nat} (h : i < xs.length) : geAt xs key i = decide (key ≤ xs[i].key) := by
  unfold geAt; rw [List.getD_eq_getElem?_getD, List.getElem?_eq_getElem h]; rfl
def thereB (xs : List Att) (key : Int) (i : Nat) : Bool := if h : i < xs.length then xs[i].key == key else false
theorem thereB_in {xs : List Att} {key : Int} {i : Nat} (h : i < xs.length) : thereB xs key i = (xs[i].key == key) := by unfold thereB; rw [dif_pos h]
theorem thereB_out {xs : List Att} {key : Int} {i : Nat} (h : ¬ i < xs.length) : thereB xs key i = false := by unfold thereB; rw [dif_neg h]
theorem two_new {w : World} (v1 v2 : Value) (t1 t2 : TypeId) {W : World} (hW : (w.alloc (.cells #[v1] t1)).alloc (.cells #[v2] t2) = W) : W.cell? ⟨w.heap.size, 0, none⟩ = some v1 ∧ W.cell? ⟨w.heap.size + 1, 0, none⟩ = some v2 ∧ Below w.heap.size w W := by
  subst hW
  have h1 := heap_alloc_new w (.cells #[v1] t1)
  have h2 := heap_alloc_new (w.alloc (.cells #[v1] t1)) (.cells #[v2] t2)
  simp only [World.size_alloc] at h2
  refine ⟨?_, ?_, ((Below.refl _ _).alloc (Nat.le_refl _) _).alloc (by simp) _⟩
  · have hc : (w.alloc (.cells #[v1] t1)).cell? ⟨w.heap.size, 0, none⟩ = some v1 := by rw [cell_of_row _ w.heap.size 0 _ _ (0, 0) h1]; rfl
    exact (((Below.refl _ _).alloc (Nat.le_refl _) (.cells #[v2] t2)).cell (p := ⟨w.heap.size, 0, none⟩) (by simp)).trans hc
  · rw [cell_of_row _ (w.heap.size + 1) 0 _ _ (0, 0) h2]; rfl

theorem ret_place {i : Int} {a b : Bool} (h : a = b) : Ending.returned (.tuple #[.int .i64 i, .bool a]) = .returned (.tuple #[.int .i64 i, .bool b]) := by rw [h]

set_option maxRecDepth 100000 in
theorem place_any (v : Value) (xs : List Att) (key : Int) (w : World) (hv : Arow w v xs) (hl : xs.length ≤ 1000000) :
    Calls Try.prog 70 #[v, .int .i64 key] w fun e w' => ∃ i : Nat, Turn (geAt xs key) xs.length i ∧ e = .returned (.tuple #[.int .i64 i, .bool (thereB xs key i)]) ∧ Below w.heap.size w w' := by
  have hmf : ∀ (fn : Fn) (first cap : Array Value) (w : World), (Instr.makeFunc fn first cap).run Try.prog w = .ok (.func fn first cap) w := fun _ _ _ _ => rfl
  generalize hW : (w.alloc (.cells #[v] 24)).alloc (.cells #[.int .i64 key] 3) = W
  obtain ⟨hc0, hc1, hB⟩ := two_new _ _ _ _ hW
  have hvW := hv.below hB (Nat.le_refl _)
  obtain ⟨a1, cap1, rfl⟩ := hv.shape
  clear hv
  have HS := Lib.hid (search_any xs.length (geAt xs key) (.pointer (some ⟨w.heap.size, 0, none⟩)) (.pointer (some ⟨w.heap.size + 1, 0, none⟩)) W hl (fun q i hi => by
    rw [geAt_of hi]
    exact clo_any xs _ key i _ _ _ hi hc0 hc1 (hvW.below (B := W.heap.size) ⟨rfl, rfl, rfl, Nat.le_refl _, fun _ _ => rfl⟩ (Nat.le_refl _))))
  have HV := Lib.hid hvW
  clear hvW
  go_enter Try.func70, Try.ntmps70
  go_wp2_with (go_at_call 82; refine HS.out.mono ?_; rintro e w1 ⟨i, ht, rfl, q, rfl⟩)
  by_cases hlt : i < xs.length
  · have he := thereB_in (key := key) hlt
    obtain ⟨b1, o1, rfl, -, -, -, hbl, hat1⟩ := Arow.opn HV.out (by omega)
    obtain ⟨d0, -, -, -, -⟩ := hat1 i hlt
    clear hat1
    generalize xs[i].key = x at *
    have HE := Lib.hid he
    have HT := Lib.hid ht
    clear he ht
    go_wp2
    go_quiet (fail)
    go_wp2
    go_ret2
    exact ⟨i, HT.out, ret_place HE.out.symm, blw_drewN (blw_drewN hB q) nq⟩
  · have he := thereB_out (key := key) hlt
    have HE := Lib.hid he
    have HT := Lib.hid ht
    have hge : i ≤ xs.length := ht.1
    clear he ht
    go_wp2
    go_quiet (fail)
    go_wp2
    go_ret2
    exact ⟨i, HT.out, ret_place HE.out.symm, blw_drewN (blw_drewN hB q) nq⟩
end Go.Proofs.Ythcakinllcffoaa

/- A7: around, Get -/
namespace Go.Proofs.Ythcakinllcffoaa
open Go.RowKit
set_option linter.unusedVariables false

/-- The attributes below a key, above it; the one with it. -/
def lo5 (xs : List Att) (key : Int) : List Att := xs.filter fun a => decide (a.key < key)
def hi5 (xs : List Att) (key : Int) : List Att := xs.filter fun a => decide (key < a.key)
def getA (xs : List Att) (key : Int) : Option Att := xs.find? fun a => a.key == key

theorem turn_take {xs : List Att} {key : Int} {i : Nat} (hr : Rise xs) (ht : Turn (geAt xs key) xs.length i) : ∀ a ∈ xs.take i, a.key < key := by
  intro a ha
  obtain ⟨j, hj, rfl⟩ := List.mem_iff_getElem.1 ha
  rw [List.length_take] at hj
  rw [List.getElem_take]
  have h1 := ht.2.2 (by omega)
  have hin := ht.1
  have hlt : i - 1 < xs.length := by omega
  rw [geAt_of hlt, decide_eq_false_iff_not] at h1
  by_cases e : j = i - 1
  · subst e; omega
  · have := List.pairwise_iff_getElem.1 hr j (i - 1) (by omega) hlt (by omega)
    omega
theorem turn_drop {xs : List Att} {key : Int} {i : Nat} (hr : Rise xs) (ht : Turn (geAt xs key) xs.length i) : ∀ a ∈ xs.drop i, key ≤ a.key := by
  intro a ha
  obtain ⟨j, hj, rfl⟩ := List.mem_iff_getElem.1 ha
  rw [List.length_drop] at hj
  rw [List.getElem_drop]
  have hlt : i < xs.length := by omega
  have h1 := ht.2.1 hlt
  rw [geAt_of hlt, decide_eq_true_iff] at h1
  by_cases e : j = 0
  · subst e; exact h1
  · have := List.pairwise_iff_getElem.1 hr i (i + j) hlt (by omega) (by omega)
    omega
theorem filter_all {α : Type} {p : α → Bool} {l : List α} (h : ∀ a ∈ l, p a = true) : l.filter p = l := List.filter_eq_self.2 h
theorem filter_none {α : Type} {p : α → Bool} {l : List α} (h : ∀ a ∈ l, p a = false) : l.filter p = [] := List.filter_eq_nil_iff.2 fun a ha => by rw [h a ha]; exact Bool.false_ne_true
theorem turn_hi_no {xs : List Att} {key : Int} {i : Nat} (hr : Rise xs) (ht : Turn (geAt xs key) xs.length i) (hn : thereB xs key i = false) : xs.drop i = hi5 xs key ∧ getA xs key = none := by
  have h1 := turn_take hr ht
  have h2 := turn_drop hr ht
  have h3 : ∀ a ∈ xs.drop i, key < a.key := by
    intro a ha
    obtain ⟨j, hj, rfl⟩ := List.mem_iff_getElem.1 ha
    rw [List.length_drop] at hj
    have hlt : i < xs.length := by omega
    rw [thereB_in hlt] at hn
    have hne : xs[i].key ≠ key := by simpa using hn
    have h0 := h2 xs[i] (by rw [List.drop_eq_getElem_cons hlt]; exact List.mem_cons_self)
    rw [List.getElem_drop]
    by_cases e : j = 0
    · subst e; simp only [Nat.add_zero]; omega
    · have := List.pairwise_iff_getElem.1 hr i (i + j) hlt (by omega) (by omega)
      omega
  refine ⟨?_, ?_⟩
  · unfold hi5
    conv => rhs; rw [← List.take_append_drop i xs]
    rw [List.filter_append, filter_none (fun a ha => by have := h1 a ha; simp; omega), filter_all (fun a ha => by simpa using h3 a ha), List.nil_append]
  · unfold getA
    rw [List.find?_eq_none]
    intro a ha
    rw [← List.take_append_drop i xs] at ha
    rcases List.mem_append.1 ha with ha | ha
    · have := h1 a ha; simp; omega
    · have := h3 a ha; simp; omega
theorem turn_hi_yes {xs : List Att} {key : Int} {i : Nat} (hr : Rise xs) (hlt : i < xs.length) (ht : Turn (geAt xs key) xs.length i) (hk : xs[i].key = key) : xs.drop (i + 1) = hi5 xs key ∧ getA xs key = some xs[i] := by
  have h1 := turn_take hr ht
  have h3 : ∀ a ∈ xs.drop (i + 1), key < a.key := by
    intro a ha
    obtain ⟨j, hj, rfl⟩ := List.mem_iff_getElem.1 ha
    rw [List.length_drop] at hj
    rw [List.getElem_drop]
    have := List.pairwise_iff_getElem.1 hr i (i + 1 + j) hlt (by omega) (by omega)
    omega
  have e : xs = xs.take i ++ (xs[i] :: xs.drop (i + 1)) := by rw [← List.drop_eq_getElem_cons hlt, List.take_append_drop]
  generalize xs[i] = x at *
  refine ⟨?_, ?_⟩
  · unfold hi5
    conv => rhs; rw [e]
    rw [List.filter_append, filter_none (fun a ha => by have := h1 a ha; simp; omega), List.nil_append, List.filter_cons, if_neg (by simp; omega), filter_all (fun a ha => by simpa using h3 a ha)]
  · unfold getA
    conv => lhs; rw [e]
    rw [List.find?_append, List.find?_eq_none.2 (fun a ha => by have := h1 a ha; simp; omega), List.find?_cons]
    simp [hk]

theorem there_yes {xs : List Att} {key : Int} {i : Nat} (hn : thereB xs key i = true) : ∃ h : i < xs.length, xs[i].key = key := by
  by_cases h : i < xs.length
  · rw [thereB_in h] at hn; exact ⟨h, by simpa using hn⟩
  · rw [thereB_out h] at hn; cases hn
end Go.Proofs.Ythcakinllcffoaa

/- A8: Get; Grow, Concat, Clone -/
namespace Go.Proofs.Ythcakinllcffoaa
open Go.RowKit
set_option linter.unusedVariables false

theorem below_set4 {w W : World} (h : Below w.heap.size w W) (v0 v1 v2 v3 : Value) : Below w.heap.size w ((((W.setCell ⟨w.heap.size, 0, none⟩ v0).setCell ⟨w.heap.size, 1, none⟩ v1).setCell ⟨w.heap.size, 2, none⟩ v2).setCell ⟨w.heap.size, 3, none⟩ v3) :=
  (((h.setCell (p := ⟨w.heap.size, 0, none⟩) (Nat.le_refl _) _).setCell (p := ⟨w.heap.size, 1, none⟩) (Nat.le_refl _) _).setCell (p := ⟨w.heap.size, 2, none⟩) (Nat.le_refl _) _).setCell (p := ⟨w.heap.size, 3, none⟩) (Nat.le_refl _) _

/-- Get: of keys that rise, the key's value, and true; a zero one and false. -/
theorem get_any5 (v : Value) (xs : List Att) (key : Int) (w : World) (hv : Arow w v xs) (hl : xs.length ≤ 1000000) :
    Calls Try.prog 61 #[v, .int .i64 key] w fun e w' => ∃ a b, (Rise xs → a = (getA xs key).getD noAtt ∧ b = (getA xs key).isSome) ∧ e = .returned (.tuple #[vv a, .bool b]) ∧ Below w.heap.size w w' := by
  have hB := (Below.refl w.heap.size w).alloc (Nat.le_refl _) (.cells #[.int .u8 0, .int .i64 0, .int .u64 0, .string ⟨#[]⟩] 47)
  have hvW := hv.below hB (Nat.le_refl _)
  have HPL := Lib.hid (place_any v xs key _ hvW hl)
  have HV := Lib.hid hvW
  obtain ⟨a1, cap1, rfl⟩ := hv.shape
  clear hv hvW
  go_enter Try.func61, Try.ntmps61
  go_wp2_with (go_at_call 70; refine HPL.out.mono ?_)
  rintro e w1 ⟨i, ht, rfl, hb⟩
  obtain ⟨hc, hf⟩ := bcell hb
  have hz : w.heap.size < w1.heap.size := by have := hb.size; simp at this; omega
  cases hth : thereB xs key i
  · have HP := Lib.hid (fun hr => (turn_hi_no hr ht hth).2)
    have HB := Lib.hid (below_set4 (below_add hB hb hB.size) (.int .u8 0) (.int .i64 0) (.int .u64 0) (.string ⟨#[]⟩))
    clear ht HPL
    go_wp2
    exact bodyPost_ret (v := .tuple #[vv noAtt, .bool false]) (by simp [results, Try.results61, go_sem, hc]) rfl
      ⟨noAtt, false, fun hr => by rw [HP.out hr]; exact ⟨rfl, rfl⟩, rfl, HB.out⟩
  · obtain ⟨hlt, hk⟩ := there_yes hth
    have HP := Lib.hid (fun hr => (turn_hi_yes hr hlt ht hk).2)
    obtain ⟨b1, o1, rfl, -, -, -, hbl, hat1⟩ := Arow.opn (HV.out.below hb (Nat.le_refl _)) (by omega)
    obtain ⟨c0, c1, c2, c3, c4⟩ := hat1 i hlt
    have HB0 := Lib.hid (below_add hB hb hB.size)
    clear hat1 ht hk HPL
    generalize xs[i] = x at *
    obtain ⟨x1, x2, x3, x4, x5⟩ := x
    simp only at c0 c1 c2 c3 c4
    go_wp2
    have HB := Lib.hid (below_set4 HB0.out (.int .u8 x2) (.int .i64 x3) (.int .u64 x4) (.string x5))
    exact bodyPost_ret (v := .tuple #[val x2 x3 x4 x5, .bool true]) (by simp [results, Try.results61, go_sem, hc]) rfl
      ⟨⟨x1, x2, x3, x4, x5⟩, true, fun hr => by rw [HP.out hr]; exact ⟨rfl, rfl⟩, rfl, HB.out⟩

set_option maxRecDepth 100000 in
theorem info_att5 : ∃ i0, Try.prog.info? 64 = some i0 ∧ i0.zero = some (av noAtt) ∧ i0.size = 5 ∧ i0.bytes = 48 := by
  refine ⟨_, rfl, ?_, ?_, ?_⟩ <;> kernel_rfl

end Go.Proofs.Ythcakinllcffoaa

/- A9: Concat, Clone, Copy -/
namespace Go.Proofs.Ythcakinllcffoaa
open Go.RowKit
set_option linter.unusedVariables false

@[reducible] def slV (x : Option Addr × Nat × Nat) : Value := .slice x.1 x.2.1 x.2.2
/-- What a list of rows holds. -/
def Rows5 (w : World) (ss : List (Option Addr × Nat × Nat)) (xss : List (List Att)) : Prop :=
  ss.length = xss.length ∧ ∀ j (h1 : j < ss.length) (h2 : j < xss.length), Arow w (slV ss[j]) xss[j]
theorem Rows5.below {B : Nat} {w w' : World} {ss : List (Option Addr × Nat × Nat)} {xss : List (List Att)} (h : Rows5 w ss xss) (hb : Below B w w') (hB : w.heap.size ≤ B) : Rows5 w' ss xss :=
  ⟨h.1, fun j h1 h2 => (h.2 j h1 h2).below hb hB⟩
end Go.Proofs.Ythcakinllcffoaa

/- A10: With, Without, Copy -/
namespace Go.Proofs.Ythcakinllcffoaa
open Go.RowKit
set_option linter.unusedVariables false

def with5 (xs : List Att) (a : Att) : List Att := lo5 xs a.key ++ a :: hi5 xs a.key
def without5 (xs : List Att) (key : Int) : List Att := lo5 xs key ++ hi5 xs key
/-- A set of the call's own that reads as ys. -/
def Own5 (w0 w : World) (u : Value) (ys : List Att) : Prop := w.ownsRow w0.heap.size 64 5 u ys.length (fl attC ys)
theorem Own5.row {w0 w : World} {u : Value} {ys : List Att} (h : Own5 w0 w u ys) : Arow w u ys := (Row.of_owns (C := attC) h).1

end Go.Proofs.Ythcakinllcffoaa

/- A11: Clone, Copy -/
namespace Go.Proofs.Ythcakinllcffoaa
open Go.RowKit
set_option linter.unusedVariables false

theorem own5_nil (w0 w : World) : Own5 w0 w (.slice none 0 0) [] := ⟨rfl, .inl ⟨rfl, rfl⟩⟩

theorem row_new0 (w : World) (a : Att) (t : TypeId) : Arow (w.alloc (.cells (aca a) t)) (.slice (some ⟨w.heap.size, 0, none⟩) 1 1) [a] := Row.built (C := attC) w t [a] (by simp [maxLen])
theorem row_new1 (w : World) (o : Obj) (a : Att) (t : TypeId) : Arow ((w.alloc o).alloc (.cells (aca a) t)) (.slice (some ⟨w.heap.size + 1, 0, none⟩) 1 1) [a] := by
  have h := row_new0 (w.alloc o) a t
  simp only [World.size_alloc] at h
  exact h
end Go.Proofs.Ythcakinllcffoaa

/- A13: the reference's Get, Without, Part -/
namespace Go.Proofs.Ythcakinllcffoaa
open Go.RowKit
set_option linter.unusedVariables false

theorem getA_step {xs : List Att} {key : Int} {k : Nat} (h : k < xs.length) (hf : getA (xs.take k) key = none) (hne : ¬ xs[k].key = key) : getA (xs.take (k + 1)) key = none := by
  unfold getA at *
  rw [atake_snoc h, List.find?_append, hf]; simp [hne]
theorem getA_found {xs : List Att} {key : Int} {k : Nat} (h : k < xs.length) (hf : getA (xs.take k) key = none) (he : xs[k].key = key) : getA xs key = some xs[k] := by
  unfold getA at *
  conv => lhs; rw [← List.take_append_drop (k + 1) xs, atake_snoc h]
  rw [List.find?_append, List.find?_append, hf]; simp [he]
theorem getA_end {xs : List Att} {key : Int} (hf : getA (xs.take xs.length) key = none) : getA xs key = none := by rwa [List.take_of_length_le (Nat.le_refl _)] at hf
@[reducible] def getV (xs : List Att) (key : Int) : Value := .tuple #[vv ((getA xs key).getD noAtt), .bool (getA xs key).isSome]
theorem getV_some {xs : List Att} {key : Int} {a : Att} (h : getA xs key = some a) : getV xs key = .tuple #[vv a, .bool true] := by unfold getV; rw [h]; rfl
theorem getV_none {xs : List Att} {key : Int} (h : getA xs key = none) : getV xs key = .tuple #[vv noAtt, .bool false] := by unfold getV; rw [h]; rfl

set_option maxHeartbeats 400000 in
theorem rget_any5 (v : Value) (xs : List Att) (key : Int) (w : World) (hv : Arow w v xs) :
    Calls Try.prog 25 #[v, .int .i64 key] w fun e w' => e = .returned (getV xs key) ∧ Below w.heap.size w w' := by
  have hl := hv.len
  obtain ⟨a, cap, rfl⟩ := hv.shape
  by_cases h0 : 0 < xs.length
  · obtain ⟨b, off, rfl, -, -, -, hbl, hat⟩ := Arow.opn hv h0
    clear hv
    have hB := (Below.refl w.heap.size w).alloc (Nat.le_refl _) (.cells (vcells 0 0 0 ⟨#[]⟩) 47)
    have hat2 := Lib.hid (fun j (hj : j < xs.length) => (hat j hj).below hB hbl)
    clear hat
    go_enter Try.func25, Try.ntmps25
    go_wp2
    go_loop [6] (fun i => ∃ k : Nat, k ≤ xs.length ∧ i = .int .i64 k ∧ Hid (getA (xs.take k) key = none)) (fun i => xs.length - (intOf i).toNat)
    case atStart => exact ⟨0, Nat.zero_le _, rfl, Lib.hid rfl⟩
    case round =>
      obtain ⟨k, hk, rfl, HF⟩ := hrel
      by_cases hlt : k < xs.length
      · obtain ⟨c0, c1, c2, c3, c4⟩ := hat2.out k hlt
        have hS := fun h => getA_found hlt HF.out h
        have hN := fun h => getA_step hlt HF.out h
        generalize xs[k] = x at *
        obtain ⟨x1, x2, x3, x4, x5⟩ := x
        simp only at c0 c1 c2 c3 c4 hS hN
        by_cases he : x1 = key
        · have HS := Lib.hid (hS he)
          have e1 : (x1 == key) = true := by simpa using he
          clear he hS hN
          go_wp2
          exact bodyPost_ret (v := .tuple #[val x2 x3 x4 x5, .bool true]) (by simp [results, Try.results25, go_sem]) rfl ⟨by rw [getV_some HS.out], (Below.refl _ _).alloc (Nat.le_refl _) _⟩
        · have HN := Lib.hid (hN he)
          have e1 : (x1 == key) = false := by simpa using he
          clear he hS hN
          go_wp2
          go_round
          case rel => exact ⟨k + 1, by omega, by go_num, HN⟩
          case measure => simp [intOf]; omega
      · obtain rfl : k = xs.length := by omega
        have HN := Lib.hid (getA_end HF.out)
        go_wp2
        exact bodyPost_ret (v := .tuple #[vv noAtt, .bool false]) (by simp [results, Try.results25, go_sem]) rfl ⟨by rw [getV_none HN.out], (Below.refl _ _).alloc (Nat.le_refl _) _⟩
  · obtain rfl : xs = [] := List.eq_nil_of_length_eq_zero (by omega)
    clear hv hl h0
    have hB := (Below.refl w.heap.size w).alloc (Nat.le_refl _) (.cells (vcells 0 0 0 ⟨#[]⟩) 47)
    go_enter Try.func25, Try.ntmps25
    go_wp2
    refine wp_loop_rounds 1 ?_
    rw [rounds_succ]
    go_wp2
    exact bodyPost_ret (v := .tuple #[vv noAtt, .bool false]) (by simp [results, Try.results25, go_sem]) rfl ⟨by rw [getV_none rfl], (Below.refl _ _).alloc (Nat.le_refl _) _⟩

/-- The attributes of other keys. -/
def wout5 (xs : List Att) (key : Int) : List Att := xs.filter fun a => a.key != key
theorem wout_yes {xs : List Att} {key : Int} {k : Nat} (h : k < xs.length) (hb : ¬ xs[k].key = key) : wout5 (xs.take (k + 1)) key = wout5 (xs.take k) key ++ [xs[k]] := by
  unfold wout5; rw [atake_snoc h, List.filter_append]; simp [hb]
theorem wout_no {xs : List Att} {key : Int} {k : Nat} (h : k < xs.length) (hb : xs[k].key = key) : wout5 (xs.take (k + 1)) key = wout5 (xs.take k) key := by
  unfold wout5; rw [atake_snoc h, List.filter_append]; simp [hb]
theorem wout_le (xs : List Att) (key : Int) : (wout5 xs key).length ≤ xs.length := List.length_filter_le _ _
theorem wout_end (xs : List Att) (key : Int) : wout5 (xs.take xs.length) key = wout5 xs key := by rw [List.take_of_length_le (Nat.le_refl _)]

/-- A row that grows by one, or stays: what the loops of this layer keep. -/
def Grows (w : World) (ls : List Att) (v : Value) (wr : World) : Prop := Own5 w wr v ls ∧ Below w.heap.size w wr
theorem grows_stay {w wr w2 : World} {ls : List Att} {v : Value} (h : Grows w ls v wr) (hb : Below wr.heap.size wr w2) : Grows w ls v w2 := ⟨owns_below h.1 hb, below_add h.2 hb h.2.size⟩
theorem grows_more {w wr w2 w3 : World} {ls : List Att} {x : Att} {v v3 : Value} (h : Grows w ls v wr) (hb : Below wr.heap.size wr w2)
    (ho : w3.ownsRow w.heap.size 64 5 v3 (ls.length + 1) (fl attC ls ++ fl attC [x])) (hg : w2.grownBy w3 v.ownBlock) : Grows w (ls ++ [x]) v3 w3 := by
  obtain ⟨h1, h2⟩ := h
  refine ⟨?_, (below_add h2 hb h2.size).grown hg (below_add h2 hb h2.size).size (fun j hj => own_base h1 hj)⟩
  unfold Own5
  rw [fl_app, List.length_append]
  exact ho

set_option maxRecDepth 100000 in
set_option maxHeartbeats 1000000 in
theorem rwithout_any5 (v : Value) (xs : List Att) (key : Int) (w : World) (hv : Arow w v xs) (hl : xs.length ≤ 1000) :
    Calls Try.prog 64 #[v, .int .i64 key] w fun e w' => ∃ u, e = .returned u ∧ Own5 w w' u (wout5 xs key) ∧ Below w.heap.size w w' := by
  obtain ⟨i0, hi, hz0, hz1, hz2⟩ := info_att5
  obtain ⟨a1, cap1, rfl⟩ := hv.shape
  by_cases h0 : 0 < xs.length
  · obtain ⟨b1, o1, rfl, -, -, -, hbl, hat⟩ := Arow.opn hv h0
    have HAT := Lib.hid hat
    clear hv hat
    go_enter Try.func64, Try.ntmps64
    go_wp2
    go_loopw [5, 6] (fun s5 s6 wr => ∃ k : Nat, k ≤ xs.length ∧ s6 = .int .i64 k ∧ Grows w (wout5 (xs.take k) key) s5 wr) (fun _ s6 _ => xs.length - (intOf s6).toNat)
    case atStart => exact ⟨0, Nat.zero_le _, rfl, own5_nil _ _, Below.refl _ _⟩
    case round =>
      obtain ⟨k, hk, rfl, hR⟩ := hrel
      by_cases hlt : k < xs.length
      · obtain ⟨c0, c1, c2, c3, c4⟩ := (HAT.out k hlt).below hR.2 hbl
        have hY := fun h => wout_yes (key := key) hlt h
        have hN := fun h => wout_no (key := key) hlt h
        have hpl := wout_le (xs.take k) key
        rw [List.length_take] at hpl
        have hsz := hR.2.size
        have HR := Lib.hid hR
        clear hR
        generalize xs[k] = x at *
        obtain ⟨x1, x2, x3, x4, x5⟩ := x
        simp only at c0 c1 c2 c3 c4 hY hN
        by_cases he : x1 = key
        · have HN := Lib.hid (hN he)
          have e1 : (x1 != key) = false := by simpa using he
          clear he hY hN
          go_wp2
          go_roundw
          case rel => exact ⟨k + 1, by omega, by go_num, by rw [HN.out]; exact HR.out⟩
          case measure => simp [intOf]; omega
        · have HN := Lib.hid (hY he)
          have e1 : (x1 != key) = true := by simpa using he
          clear he hY hN
          go_wp2_with (at_builtin; refine wpList_append_row (C := attC) rfl (.tmp 20) (.tmp 25) 24 rfl w.heap.size 64 i0 (av noAtt) 48 Try.underlying24 hi hz0 hz1 hz2 rfl _ _ _ rfl (owns_below HR.out.1 ((Below.refl _ _).alloc (Nat.le_refl _) _)) _ [⟨x1, x2, x3, x4, x5⟩] rfl (row_new0 wr ⟨x1, x2, x3, x4, x5⟩ 64) (by unfold maxLen; simp; omega) (by simp; omega) (by simp; omega) ?_; intro v3 w3 hown3 hgrow3)
          have HC := Lib.hid (grows_more HR.out ((Below.refl _ _).alloc (Nat.le_refl _) _) hown3 hgrow3)
          go_roundw
          case rel => exact ⟨k + 1, by omega, by go_num, by rw [HN.out]; exact HC.out⟩
          case measure => simp [intOf]; omega
      · obtain rfl : k = xs.length := by omega
        have HR := Lib.hid hR
        clear hR
        go_wp2
        go_ret
        have h := HR.out
        rw [wout_end] at h
        exact ⟨_, rfl, h⟩
  · obtain rfl : xs = [] := List.eq_nil_of_length_eq_zero (by omega)
    clear hv h0 hl
    go_enter Try.func64, Try.ntmps64
    go_wp2
    refine wp_loop_rounds 1 ?_
    rw [rounds_succ]
    go_wp2
    go_ret
    exact ⟨_, rfl, own5_nil _ _, Below.refl _ _⟩

end Go.Proofs.Ythcakinllcffoaa

/- A14: the reference's With -/
namespace Go.Proofs.Ythcakinllcffoaa
open Go.RowKit
set_option linter.unusedVariables false

/-- What the reference's loop does with one attribute more. -/
def wstep (a : Att) (s : List Att × Bool) (x : Att) : List Att × Bool := if !s.2 && decide (a.key < x.key) then (s.1 ++ [a] ++ [x], true) else (s.1 ++ [x], s.2)
def wfold (a : Att) (l : List Att) : List Att × Bool := l.foldl (wstep a) ([], false)
theorem wfold_nil (a : Att) : wfold a [] = ([], false) := rfl
theorem wfold_snoc (a : Att) {l : List Att} {k : Nat} (h : k < l.length) : wfold a (l.take (k + 1)) = wstep a (wfold a (l.take k)) l[k] := by
  unfold wfold; rw [atake_snoc h, List.foldl_append]; rfl
theorem wfold_end (a : Att) (l : List Att) : wfold a (l.take l.length) = wfold a l := by rw [List.take_of_length_le (Nat.le_refl _)]
def wdone (a : Att) (l : List Att) : List Att := if (wfold a l).2 then (wfold a l).1 else (wfold a l).1 ++ [a]
theorem wfold_len (a : Att) (l : List Att) (k : Nat) (h : k ≤ l.length) : (wfold a (l.take k)).1.length ≤ k + 1 ∧ ((wfold a (l.take k)).2 = false → (wfold a (l.take k)).1.length ≤ k) := by
  induction k with
  | zero => simp [wfold_nil]
  | succ k ih =>
    obtain ⟨h1, h2⟩ := ih (by omega)
    rw [wfold_snoc a (by omega)]
    unfold wstep
    cases hb : (wfold a (l.take k)).2
    · have := h2 hb
      split <;> simp <;> omega
    · simp; omega
theorem wfold_below (a : Att) : ∀ (l : List Att) (s : List Att × Bool), (∀ x ∈ l, x.key < a.key) → l.foldl (wstep a) s = (s.1 ++ l, s.2)
  | [], s, _ => by simp
  | x :: r, s, h => by
    have hx := h x (by simp)
    have e : wstep a s x = (s.1 ++ [x], s.2) := by
      unfold wstep; rw [if_neg]; simp; intro _; omega
    rw [List.foldl_cons, e, wfold_below a r _ (fun y hy => h y (by simp [hy]))]
    simp
theorem wfold_in (a : Att) : ∀ (l : List Att) (s : List Att), l.foldl (wstep a) (s, true) = (s ++ l, true)
  | [], s => by simp
  | x :: r, s => by
    have e : wstep a (s, true) x = (s ++ [x], true) := by unfold wstep; simp
    rw [List.foldl_cons, e, wfold_in a r]
    simp
/-- Of keys that rise, the reference's With is the set with the attribute in its place. -/
theorem wdone_eq {xs : List Att} (a : Att) (hr : Rise xs) : wdone a (wout5 xs a.key) = with5 xs a := by
  have hw : wout5 xs a.key = lo5 xs a.key ++ hi5 xs a.key := by
    unfold wout5 lo5 hi5
    induction xs with
    | nil => rfl
    | cons x r ih =>
      obtain ⟨h1, h2⟩ := List.pairwise_cons.1 hr
      have ih := ih h2
      simp only [List.filter_cons]
      by_cases q1 : x.key < a.key
      · have e1 : (x.key != a.key) = true := by simp; omega
        have e3 : ¬ a.key < x.key := by omega
        simp [e1, q1, e3, ih]
      · have hall : ∀ y ∈ r, ¬ y.key < a.key := fun y hy => by have := h1 y hy; omega
        have e0 : r.filter (fun a_1 => decide (a_1.key < a.key)) = [] := filter_none (fun y hy => by simpa using hall y hy)
        rw [e0, List.nil_append] at ih
        by_cases q2 : x.key = a.key
        · simp [q2, e0, ih]
        · have e1 : (x.key != a.key) = true := by simpa using q2
          have e3 : a.key < x.key := by omega
          simp [e1, q1, e3, e0, ih]
  unfold wdone
  have h1 : wfold a (wout5 xs a.key) = (hi5 xs a.key).foldl (wstep a) (lo5 xs a.key, false) := by
    unfold wfold
    rw [hw, List.foldl_append, wfold_below a (lo5 xs a.key) ([], false) (fun x hx => by have := (List.mem_filter.1 hx).2; simpa using this)]
    simp
  rw [h1]
  unfold with5
  cases hh : hi5 xs a.key with
  | nil => simp
  | cons y r =>
    have hy : a.key < y.key := by
      have : y ∈ hi5 xs a.key := by rw [hh]; simp
      simpa using (List.mem_filter.1 this).2
    have e : wstep a (lo5 xs a.key, false) y = (lo5 xs a.key ++ [a] ++ [y], true) := by unfold wstep; simp [hy]
    rw [List.foldl_cons, e, wfold_in]
    simp

theorem _root_.Go.RowKit.Below.drewN' {B : Nat} {a w : World} (h : Below B a w) (n : Nat) : Below B a (w.drewN n) := h.trans ⟨rfl, rfl, rfl, Nat.le_refl _, fun _ _ => rfl⟩

/-- The loop's state. -/
def WithRel (W : World) (a : Att) (l : List Att) (k : Nat) (v : Value) (b : Bool) (wr : World) : Prop := b = (wfold a (l.take k)).2 ∧ Grows W (wfold a (l.take k)).1 v wr
theorem with_next {W wr : World} {a : Att} {l : List Att} {k : Nat} {v : Value} {b : Bool} {ls : List Att} (hlt : k < l.length) (hs : wstep a (wfold a (l.take k)) l[k] = (ls, b)) (hg : Grows W ls v wr) : WithRel W a l (k + 1) v b wr := by
  unfold WithRel
  rw [wfold_snoc a hlt, hs]
  exact ⟨rfl, hg⟩

set_option maxRecDepth 100000 in
set_option maxHeartbeats 2000000 in
theorem rwith_any5 (v : Value) (xs : List Att) (a : Att) (w : World) (hv : Arow w v xs) (hl : xs.length ≤ 1000) :
    Calls Try.prog 47 #[v, av a] w fun e w' => ∃ u, e = .returned u ∧ Own5 w w' u (wdone a (wout5 xs a.key)) ∧ Below w.heap.size w w' := by
  obtain ⟨i0, hi, hz0, hz1, hz2⟩ := info_att5
  have hB := (Below.refl w.heap.size w).alloc (Nat.le_refl _) (.cells (aca a) 64)
  have hbx := ABox.box a w 64
  have HW := Lib.hid (rwithout_any5 v xs a.key _ (hv.below hB (Nat.le_refl _)) hl)
  have hle := wout_le xs a.key
  clear hv
  generalize wout5 xs a.key = l at *
  have hl2 : l.length ≤ 1000 := by omega
  clear hle hl
  have hfin : ∀ (W wr : World) (u : Value), Below w.heap.size w W → Grows W (wdone a l) u wr → Own5 w wr u (wdone a l) ∧ Below w.heap.size w wr := fun W wr u h g => ⟨owns_mono g.1 h.size, below_add h g.2 h.size⟩
  have hlen := fun k h => wfold_len a l k h
  have hend := wfold_end a l
  have hnext := fun W wr k v b ls hlt hs hg => with_next (W := W) (wr := wr) (a := a) (l := l) (k := k) (v := v) (b := b) (ls := ls) hlt hs hg
  have hdone : wdone a l = if (wfold a l).2 then (wfold a l).1 else (wfold a l).1 ++ [a] := rfl
  have HFIN := Lib.hid hfin
  have HLEN := Lib.hid hlen
  have HEND := Lib.hid hend
  have HNEXT := Lib.hid hnext
  have HDONE := Lib.hid hdone
  clear hfin hlen hend hnext hdone
  obtain ⟨a1, a2, a3, a4, a5⟩ := a
  go_enter Try.func47, Try.ntmps47
  go_wp2_with (go_at_call 64; refine HW.out.mono ?_; rintro e W ⟨u0, rfl, hown0, hb0⟩)
  have hrow := hown0.row
  have hBW := below_add hB hb0 hB.size
  have hBOX := hbx.below hb0 (by simp)
  have hWs : w.heap.size < W.heap.size := hBOX.lt
  obtain ⟨q1, cap1, rfl⟩ := hrow.shape
  have HB := Lib.hid hBW
  have HROW := Lib.hid hrow
  have HBOX := Lib.hid hBOX
  clear hown0 hb0 hrow hBW hBOX hbx hB HW
  by_cases h0 : 0 < l.length
  · obtain ⟨b1, o1, rfl, -, -, -, hbl, hat⟩ := Arow.opn HROW.out h0
    have HAT := Lib.hid hat
    clear hat
    go_loopw [6, 7, 8] (fun s6 s7 s8 wr => ∃ (k : Nat) (b : Bool), k ≤ l.length ∧ s8 = .int .i64 k ∧ s7 = .bool b ∧ WithRel W ⟨a1, a2, a3, a4, a5⟩ l k s6 b wr) (fun _ _ s8 _ => l.length - (intOf s8).toNat)
    case atStart => exact ⟨0, false, Nat.zero_le _, rfl, rfl, rfl, own5_nil _ _, Below.refl _ _⟩
    case round =>
      obtain ⟨k, b, hk, rfl, rfl, hbb, hR⟩ := hrel
      by_cases hlt : k < l.length
      · have hAT := (HAT.out k hlt).below hR.2 hbl
        have hBX := HBOX.out.below hR.2 hWs
        have hln := HLEN.out k hk
        have HN := Lib.hid (fun wr v b ls => HNEXT.out W wr k v b ls hlt)
        have hsz := hR.2.size
        have hblr : b1 < wr.heap.size := by omega
        generalize wfold ⟨a1, a2, a3, a4, a5⟩ (l.take k) = st at *
        obtain ⟨ls, bb⟩ := st
        simp only at hbb hR hln
        subst hbb
        have HR := Lib.hid hR
        clear hR
        have HTW := Lib.hid (HAT.out k hlt)
        generalize l[k] = x at *
        have HT := Lib.hid hAT
        have HX := Lib.hid hBX
        obtain ⟨c0, c1, c2, c3, c4⟩ := hAT
        obtain ⟨d0, d1, d2, d3, d4⟩ := hBX
        obtain ⟨x1, x2, x3, x4, x5⟩ := x
        simp only at c0 c1 c2 c3 c4 d0 d1 d2 d3 d4
        cases b
        · have hll := hln.2 rfl
          clear hln
          by_cases hc : a1 < x1
          · have HS2 := Lib.hid (show wstep ⟨a1, a2, a3, a4, a5⟩ (ls, false) ⟨x1, x2, x3, x4, x5⟩ = (ls ++ [⟨a1, a2, a3, a4, a5⟩] ++ [⟨x1, x2, x3, x4, x5⟩], true) by unfold wstep; simp [hc])
            have e1 : decide (a1 < x1) = true := by simpa using hc
            clear hc
            go_wp2
            go_quiet (fail)
            have HR1 := Lib.hid (grows_stay HR.out ((Below.refl _ _).drewN' nq))
            go_wp2_with (first
              | (at_builtin; refine wpList_append_row (C := attC) rfl (.tmp 31) (.tmp 33) 24 rfl W.heap.size 64 i0 (av noAtt) 48 Try.underlying24 hi hz0 hz1 hz2 rfl _ _ _ rfl (owns_below HR1.out.1 ((Below.refl _ _).alloc (Nat.le_refl _) _)) _ [⟨a1, a2, a3, a4, a5⟩] rfl (row_new0 _ ⟨a1, a2, a3, a4, a5⟩ 64) (by unfold maxLen; simp; omega) (by simp; omega) (by simp; omega) ?_; intro v3 w3 hown3 hgrow3; have HC := Lib.hid (grows_more HR1.out ((Below.refl _ _).alloc (Nat.le_refl _) _) hown3 hgrow3); obtain ⟨f0, f1, f2, f3, f4⟩ := HTW.out.below HC.out.2 hbl; have hs3 := HC.out.2.size; clear hown3 hgrow3)
              | (at_builtin; refine wpList_append_row (C := attC) rfl (.tmp 35) (.tmp 40) 24 rfl W.heap.size 64 i0 (av noAtt) 48 Try.underlying24 hi hz0 hz1 hz2 rfl _ _ _ rfl (owns_below HC.out.1 ((Below.refl _ _).alloc (Nat.le_refl _) _)) _ [⟨x1, x2, x3, x4, x5⟩] rfl (row_new0 _ ⟨x1, x2, x3, x4, x5⟩ 64) (by unfold maxLen; simp; omega) (by simp; omega) (by simp; omega) ?_; intro v4 w4 hown4 hgrow4))
            have HC4 := Lib.hid (grows_more HC.out ((Below.refl _ _).alloc (Nat.le_refl _) _) hown4 hgrow4)
            go_roundw
            case rel => exact ⟨k + 1, true, by omega, by go_num, rfl, HN.out _ _ _ _ HS2.out HC4.out⟩
            case measure => simp [intOf]; omega
          · have HS2 := Lib.hid (show wstep ⟨a1, a2, a3, a4, a5⟩ (ls, false) ⟨x1, x2, x3, x4, x5⟩ = (ls ++ [⟨x1, x2, x3, x4, x5⟩], false) by unfold wstep; simp [hc])
            have e1 : decide (a1 < x1) = false := by simpa using hc
            clear hc
            go_wp2
            go_quiet (fail)
            have HR1 := Lib.hid (grows_stay HR.out ((Below.refl _ _).drewN' nq))
            go_wp2_with (at_builtin; refine wpList_append_row (C := attC) rfl (.tmp 35) (.tmp 40) 24 rfl W.heap.size 64 i0 (av noAtt) 48 Try.underlying24 hi hz0 hz1 hz2 rfl _ _ _ rfl (owns_below HR1.out.1 ((Below.refl _ _).alloc (Nat.le_refl _) _)) _ [⟨x1, x2, x3, x4, x5⟩] rfl (row_new0 _ ⟨x1, x2, x3, x4, x5⟩ 64) (by unfold maxLen; simp; omega) (by simp; omega) (by simp; omega) ?_; intro v3 w3 hown3 hgrow3)
            have HC := Lib.hid (grows_more HR1.out ((Below.refl _ _).alloc (Nat.le_refl _) _) hown3 hgrow3)
            go_roundw
            case rel => exact ⟨k + 1, false, by omega, by go_num, rfl, HN.out _ _ _ _ HS2.out HC.out⟩
            case measure => simp [intOf]; omega
        · have hll := hln.1
          clear hln
          have HS2 := Lib.hid (show wstep ⟨a1, a2, a3, a4, a5⟩ (ls, true) ⟨x1, x2, x3, x4, x5⟩ = (ls ++ [⟨x1, x2, x3, x4, x5⟩], true) by unfold wstep; simp)
          go_wp2
          go_quiet (fail)
          have HR1 := Lib.hid (grows_stay HR.out ((Below.refl _ _).drewN' nq))
          go_wp2_with (at_builtin; refine wpList_append_row (C := attC) rfl (.tmp 35) (.tmp 40) 24 rfl W.heap.size 64 i0 (av noAtt) 48 Try.underlying24 hi hz0 hz1 hz2 rfl _ _ _ rfl (owns_below HR1.out.1 ((Below.refl _ _).alloc (Nat.le_refl _) _)) _ [⟨x1, x2, x3, x4, x5⟩] rfl (row_new0 _ ⟨x1, x2, x3, x4, x5⟩ 64) (by unfold maxLen; simp; omega) (by simp; omega) (by simp; omega) ?_; intro v3 w3 hown3 hgrow3)
          have HC := Lib.hid (grows_more HR1.out ((Below.refl _ _).alloc (Nat.le_refl _) _) hown3 hgrow3)
          go_roundw
          case rel => exact ⟨k + 1, true, by omega, by go_num, rfl, HN.out _ _ _ _ HS2.out HC.out⟩
          case measure => simp [intOf]; omega
      · obtain rfl : k = l.length := by omega
        rw [HEND.out] at hR hbb
        have hd := HDONE.out
        have hln := HLEN.out l.length (Nat.le_refl _)
        rw [HEND.out] at hln
        have hBX := HBOX.out.below hR.2 hWs
        have hsz := hR.2.size
        generalize wfold ⟨a1, a2, a3, a4, a5⟩ l = st at *
        obtain ⟨ls, bb⟩ := st
        simp only at hbb hR hd hln
        subst hbb
        have HR := Lib.hid hR
        clear hR
        obtain ⟨d0, d1, d2, d3, d4⟩ := hBX
        simp only at d0 d1 d2 d3 d4
        cases b
        · have hll := hln.2 rfl
          clear hln
          rw [if_neg Bool.false_ne_true] at hd
          have HD := Lib.hid hd
          clear hd
          go_wp2_with (at_builtin; refine wpList_append_row (C := attC) rfl (.tmp 44) (.tmp 46) 24 rfl W.heap.size 64 i0 (av noAtt) 48 Try.underlying24 hi hz0 hz1 hz2 rfl _ _ _ rfl (owns_below HR.out.1 ((Below.refl _ _).alloc (Nat.le_refl _) _)) _ [⟨a1, a2, a3, a4, a5⟩] rfl (row_new0 _ ⟨a1, a2, a3, a4, a5⟩ 64) (by unfold maxLen; simp; omega) (by simp; omega) (by simp; omega) ?_; intro v3 w3 hown3 hgrow3)
          have HC := Lib.hid (grows_more HR.out ((Below.refl _ _).alloc (Nat.le_refl _) _) hown3 hgrow3)
          go_wp2
          go_ret
          exact ⟨_, rfl, HFIN.out _ _ _ HB.out (by rw [HD.out]; exact HC.out)⟩
        · rw [if_pos rfl] at hd
          have HD := Lib.hid hd
          clear hd hln
          go_wp2
          go_ret
          exact ⟨_, rfl, HFIN.out _ _ _ HB.out (by rw [HD.out]; exact HR.out)⟩
  · obtain rfl : l = [] := List.eq_nil_of_length_eq_zero (by omega)
    clear h0 hl2 HLEN HEND HNEXT
    obtain ⟨d0, d1, d2, d3, d4⟩ := HBOX.out
    simp only at d0 d1 d2 d3 d4
    have hini : Grows W [] (.slice none 0 0) W := ⟨own5_nil _ _, Below.refl _ _⟩
    have HI := Lib.hid hini
    clear hini
    refine wp_loop_rounds 1 ?_
    rw [rounds_succ]
    go_wp2_with (at_builtin; refine wpList_append_row (C := attC) rfl (.tmp 44) (.tmp 46) 24 rfl W.heap.size 64 i0 (av noAtt) 48 Try.underlying24 hi hz0 hz1 hz2 rfl _ _ _ rfl (owns_below HI.out.1 ((Below.refl _ _).alloc (Nat.le_refl _) _)) _ [⟨a1, a2, a3, a4, a5⟩] rfl (row_new0 _ ⟨a1, a2, a3, a4, a5⟩ 64) (by unfold maxLen; simp) (by simp) (by simp) ?_; intro v3 w3 hown3 hgrow3)
    have HC := Lib.hid (grows_more HI.out ((Below.refl _ _).alloc (Nat.le_refl _) _) hown3 hgrow3)
    go_wp2
    go_ret
    exact ⟨_, rfl, HFIN.out _ _ _ HB.out (by rw [HDONE.out]; exact HC.out)⟩
end Go.Proofs.Ythcakinllcffoaa

/- A15: wellFormed -/
namespace Go.Proofs.Ythcakinllcffoaa
open Go.RowKit
set_option linter.unusedVariables false

def okV (xs : List Att) : Bool := xs.all fun a => vmay a.k a.n a.f a.s
def okF5 (ks : List Key) (xs : List Att) : Bool := xs.all fun a => fitsB ks a.key a.k a.n a.f a.s
/-- May a set be, but for the schema; what May answers. -/
def wf5 (xs : List Att) : Bool := decide (Rise xs) && decide (xs.length ≤ 64) && okV xs
def may5 (ks : List Key) (xs : List Att) : Int := if wf5 xs then (if okF5 ks xs then 0 else 4) else 3
theorem okV_step {xs : List Att} {k : Nat} (h : k < xs.length) (hp : okV (xs.take k) = true) (hx : vmay xs[k].k xs[k].n xs[k].f xs[k].s = true) : okV (xs.take (k + 1)) = true := by
  unfold okV at *; rw [atake_snoc h, List.all_append, hp]; simpa using hx
theorem okV_bad {xs : List Att} {k : Nat} (h : k < xs.length) (hx : vmay xs[k].k xs[k].n xs[k].f xs[k].s = false) : okV xs = false := by
  unfold okV; rw [List.all_eq_false]; exact ⟨_, List.getElem_mem h, by rw [hx]; exact Bool.false_ne_true⟩
theorem okV_end {xs : List Att} (hp : okV (xs.take xs.length) = true) : okV xs = true := by rwa [List.take_of_length_le (Nat.le_refl _)] at hp
theorem okF_step {ks : List Key} {xs : List Att} {k : Nat} (h : k < xs.length) (hp : okF5 ks (xs.take k) = true) (hx : fitsB ks xs[k].key xs[k].k xs[k].n xs[k].f xs[k].s = true) : okF5 ks (xs.take (k + 1)) = true := by
  unfold okF5 at *; rw [atake_snoc h, List.all_append, hp]; simpa using hx
theorem okF_bad {ks : List Key} {xs : List Att} {k : Nat} (h : k < xs.length) (hx : fitsB ks xs[k].key xs[k].k xs[k].n xs[k].f xs[k].s = false) : okF5 ks xs = false := by
  unfold okF5; rw [List.all_eq_false]; exact ⟨_, List.getElem_mem h, by rw [hx]; exact Bool.false_ne_true⟩
theorem okF_end {ks : List Key} {xs : List Att} (hp : okF5 ks (xs.take xs.length) = true) : okF5 ks xs = true := by rwa [List.take_of_length_le (Nat.le_refl _)] at hp
theorem wf_badV {xs : List Att} (h : okV xs = false) : wf5 xs = false := by unfold wf5; rw [h, Bool.and_false]
theorem wf_badR {xs : List Att} (h : ¬ Rise xs) : wf5 xs = false := by unfold wf5; rw [decide_eq_false h]; rfl
theorem wf_badL {xs : List Att} (h : 64 < xs.length) : wf5 xs = false := by unfold wf5; rw [show decide (xs.length ≤ 64) = false by rw [decide_eq_false_iff_not]; omega]; simp
theorem wf_good {xs : List Att} (h1 : Rise xs) (h2 : xs.length ≤ 64) (h3 : okV xs = true) : wf5 xs = true := by unfold wf5; rw [decide_eq_true h1, decide_eq_true h2, h3]; rfl
theorem may_3 {ks : List Key} {xs : List Att} (h : wf5 xs = false) : may5 ks xs = 3 := by unfold may5; rw [h]; rfl
theorem may_4 {ks : List Key} {xs : List Att} (h : wf5 xs = true) (hf : okF5 ks xs = false) : may5 ks xs = 4 := by unfold may5; rw [h, hf]; rfl
theorem may_0 {ks : List Key} {xs : List Att} (h : wf5 xs = true) (hf : okF5 ks xs = true) : may5 ks xs = 0 := by unfold may5; rw [h, hf]; rfl
theorem rise_zero {xs : List Att} : Rise (xs.take 0) := by simp [Rise]

/-- The worlds of the round's test. -/
def WfC (B b o : Nat) (x y : Att) (two : Bool) (W W' : World) : Prop := ABox B x W' ∧ (two = true → AAt b o y W') ∧ Below W.heap.size W W'
theorem WfC.start {B b o : Nat} {x y : Att} {W : World} (h : ABox B x W) : WfC B b o x y false W W := ⟨h, fun h => absurd h Bool.false_ne_true, Below.refl _ _⟩
theorem WfC.start2 {B b o : Nat} {x y : Att} {W : World} (h : ABox B x W) (h2 : AAt b o y W) : WfC B b o x y true W W := ⟨h, fun _ => h2, Below.refl _ _⟩
theorem WfC.below {B b o : Nat} {x y : Att} {two : Bool} {W w w' : World} (h : WfC B b o x y two W w) (hb : Below w.heap.size w w') : WfC B b o x y two W w' :=
  ⟨h.1.below hb h.1.lt, fun ht => (h.2.1 ht).below hb (World.block_lt_of_cell? _ _ (h.2.1 ht).1), below_add h.2.2 hb h.2.2.size⟩

set_option maxRecDepth 100000 in
set_option maxHeartbeats 600000 in
theorem wf_any (v : Value) (xs : List Att) (w : World) (hv : Arow w v xs) (hW : ∀ a ∈ xs, AttW a) :
    Calls Try.prog 65 #[v] w fun e w' => e = .returned (.bool (wf5 xs)) ∧ Below w.heap.size w w' := by
  have hl := hv.len
  obtain ⟨a1, cap1, rfl⟩ := hv.shape
  by_cases hlong : 64 < xs.length
  · have HN := Lib.hid (wf_badL hlong)
    have d1 : decide ((64 : Int) < (xs.length : Int)) = true := by rw [decide_eq_true_iff]; omega
    clear hv hW hlong
    go_enter Try.func65, Try.ntmps65
    go_wp2
    go_ret
    exact ⟨by rw [HN.out]; rfl, Below.refl _ _⟩
  have d1 : decide ((64 : Int) < (xs.length : Int)) = false := by rw [decide_eq_false_iff_not]; omega
  by_cases h0 : 0 < xs.length
  · obtain ⟨b1, o1, rfl, -, -, -, hbl, hat⟩ := Arow.opn hv h0
    have HAT := Lib.hid hat
    have HWF := Lib.hid hW
    have HLG := Lib.hid (show xs.length ≤ 64 by omega)
    clear hv hat hW hlong
    go_enter Try.func65, Try.ntmps65
    go_wp2
    go_loopw [10] (fun s10 wr => ∃ k : Nat, k ≤ xs.length ∧ s10 = .int .i64 k ∧ Hid (Rise (xs.take k) ∧ okV (xs.take k) = true) ∧ Below w.heap.size w wr) (fun s10 _ => xs.length - (intOf s10).toNat)
    case atStart => exact ⟨0, Nat.zero_le _, rfl, Lib.hid ⟨rise_zero, rfl⟩, Below.refl _ _⟩
    case round =>
      obtain ⟨k, hk, rfl, HP, hb⟩ := hrel
      by_cases hlt : k < xs.length
      · obtain ⟨c0, c1, c2, c3, c4⟩ := (HAT.out k hlt).below hb hbl
        have hsz := hb.size
        have hw := HWF.out _ (List.getElem_mem hlt)
        have HM := Lib.hid (fun w => vmay_any xs[k].k xs[k].n xs[k].f xs[k].s w hw.f0 hw.f1)
        have hVS := fun h => okV_step hlt HP.out.2 h
        have hVB := fun h => wf_badV (okV_bad hlt h)
        clear hw
        cases k with
        | zero =>
          have hR1 : Rise (xs.take (0 + 1)) := rise_one
          have HR1 := Lib.hid hR1
          clear hR1
          generalize xs[0] = x at *
          obtain ⟨x1, x2, x3, x4, x5⟩ := x
          simp only at c0 c1 c2 c3 c4 HM hVS hVB
          generalize vmay x2 x3 x4 x5 = m at *
          have hbx := ABox.box ⟨x1, x2, x3, x4, x5⟩ wr 64
          simp only [Nat.zero_mul, Nat.add_zero] at c0 c1 c2 c3 c4
          go_wp2_with fail
          have hC0 : WfC wr.heap.size b1 o1 ⟨x1, x2, x3, x4, x5⟩ ⟨x1, x2, x3, x4, x5⟩ false (wr.alloc (.cells (aca ⟨x1, x2, x3, x4, x5⟩) 64)) (wr.alloc (.cells (aca ⟨x1, x2, x3, x4, x5⟩) 64)) := WfC.start hbx
          have KM := Lib.hid (fun w9 (hS : WfC wr.heap.size b1 o1 ⟨x1, x2, x3, x4, x5⟩ ⟨x1, x2, x3, x4, x5⟩ false (wr.alloc (.cells (aca ⟨x1, x2, x3, x4, x5⟩) 64)) w9) => (HM.out w9).mono fun e w' (h : _ ∧ _) => (⟨h.1, hS.below h.2⟩ : _ ∧ WfC wr.heap.size b1 o1 ⟨x1, x2, x3, x4, x5⟩ ⟨x1, x2, x3, x4, x5⟩ false (wr.alloc (.cells (aca ⟨x1, x2, x3, x4, x5⟩) 64)) w'))
          have HB := Lib.hid (hb.alloc hb.size (.cells (aca ⟨x1, x2, x3, x4, x5⟩) 64))
          clear hbx c0 c1 c2 c3 c4 HM hb
          refine region_classw (C := WfC wr.heap.size b1 o1 ⟨x1, x2, x3, x4, x5⟩ ⟨x1, x2, x3, x4, x5⟩ false (wr.alloc (.cells (aca ⟨x1, x2, x3, x4, x5⟩) 64))) (by kernel_rfl) (by kernel_rfl) (hC0.below (Below.refl _ _).drew) ?_
          repeat (first
            | (refine w_skip (by rfl) (by rfl) ?_
               simp only [Act.put, List.setIfInBounds_toArray, List.set_cons_zero, List.set_cons_succ])
            | (first
                 | refine w_val (v := ?_) (by rfl) (fun w9 hS => ?_) ?_
                 | refine w_valg (v := ?_) (by rfl) (by rfl) (fun w9 hS => ?_) ?_
               rotate_left
               · obtain ⟨⟨g0, g1, g2, g3, g4⟩, -, -⟩ := hS
                 go_simp
                 try with_reducible rfl
               simp only [Act.put, List.setIfInBounds_toArray, List.set_cons_zero, List.set_cons_succ])
            | (first
                 | refine w_call (by rfl) (fun w9 hS => ?_) KM.out ?_
                 | refine w_callg (by rfl) (by rfl) (fun w9 hS => ?_) KM.out ?_
               · obtain ⟨⟨g0, g1, g2, g3, g4⟩, -, -⟩ := hS
                 go_simp
               simp only [Act.put, List.setIfInBounds_toArray, List.set_cons_zero, List.set_cons_succ]))
          refine w_end ?_
          intro w5 T5
          cases m
          · have HVB := Lib.hid (hVB rfl)
            clear hVS hVB
            go_wp2_with fail
            go_ret
            exact ⟨by rw [HVB.out]; rfl, below_add HB.out T5.2.2 HB.out.size⟩
          · have HVS := Lib.hid (hVS rfl)
            have HT := Lib.hid T5.2.2
            clear hVS hVB
            go_wp2_with fail
            go_roundw
            case rel => exact ⟨0 + 1, by omega, by go_num, Lib.hid ⟨HR1.out, HVS.out⟩, below_add HB.out HT.out HB.out.size⟩
            case measure => simp [intOf]; omega
        | succ j =>
          have hjl : j < xs.length := by omega
          obtain ⟨p0, p1, p2, p3, p4⟩ := (HAT.out j hjl).below hb hbl
          have hRS := fun h => rise_step hlt HP.out.1 h
          have hRB := fun h => wf_badR (rise_bad hlt h)
          have hj1 : ((j + 1 : Nat) : Int) = (j : Int) + 1 := by omega
          have hwr : IntKind.i64.wrap (j : Int) = (j : Int) := by have := HLG.out; rw [IntKind.wrap_i64]; omega
          rw [hj1]
          generalize xs[j + 1] = x at *
          generalize xs[j] = y at *
          obtain ⟨x1, x2, x3, x4, x5⟩ := x
          obtain ⟨y1, y2, y3, y4, y5⟩ := y
          simp only at c0 c1 c2 c3 c4 p0 p1 p2 p3 p4 HM hVS hVB hRS hRB
          generalize vmay x2 x3 x4 x5 = m at *
          have hbx := ABox.box ⟨x1, x2, x3, x4, x5⟩ wr 64
          have HC0 := Lib.hid (WfC.start2 (x := ⟨x1, x2, x3, x4, x5⟩) (y := ⟨y1, y2, y3, y4, y5⟩) hbx (AAt.below (a := ⟨y1, y2, y3, y4, y5⟩) ⟨p0, p1, p2, p3, p4⟩ ((Below.refl _ _).alloc (Nat.le_refl _) (.cells (aca ⟨x1, x2, x3, x4, x5⟩) 64)) (by omega)))
          have KM := Lib.hid (fun w9 (hS : WfC wr.heap.size b1 (o1 + j * 5) ⟨x1, x2, x3, x4, x5⟩ ⟨y1, y2, y3, y4, y5⟩ true (wr.alloc (.cells (aca ⟨x1, x2, x3, x4, x5⟩) 64)) w9) => (HM.out w9).mono fun e w' (h : _ ∧ _) => (⟨h.1, hS.below h.2⟩ : _ ∧ WfC wr.heap.size b1 (o1 + j * 5) ⟨x1, x2, x3, x4, x5⟩ ⟨y1, y2, y3, y4, y5⟩ true (wr.alloc (.cells (aca ⟨x1, x2, x3, x4, x5⟩) 64)) w'))
          have HB := Lib.hid (hb.alloc hb.size (.cells (aca ⟨x1, x2, x3, x4, x5⟩) 64))
          go_wp2_with fail
          clear hbx c0 c1 c2 c3 c4 p0 p1 p2 p3 p4 HM hb
          by_cases hle : x1 ≤ y1
          · have e1 : decide (x1 ≤ y1) = true := by simpa using hle
            have HVB := Lib.hid (hRB (by omega))
            clear hVS hVB hRS hRB hle
            refine region_classw (C := WfC wr.heap.size b1 (o1 + j * 5) ⟨x1, x2, x3, x4, x5⟩ ⟨y1, y2, y3, y4, y5⟩ true (wr.alloc (.cells (aca ⟨x1, x2, x3, x4, x5⟩) 64))) (by kernel_rfl) (by kernel_rfl) (HC0.out.below (Below.refl _ _).drew) ?_
            repeat (first
              | (refine w_skip (by rfl) (by rfl) ?_
                 simp only [Act.put, List.setIfInBounds_toArray, List.set_cons_zero, List.set_cons_succ])
              | (first
                   | refine w_val (v := ?_) (by rfl) (fun w9 hS => ?_) ?_
                   | refine w_valg (v := ?_) (by rfl) (by rfl) (fun w9 hS => ?_) ?_
                 rotate_left
                 · obtain ⟨⟨g0, g1, g2, g3, g4⟩, hy, -⟩ := hS
                   obtain ⟨f0, f1, f2, f3, f4⟩ := hy rfl
                   go_simp
                   try with_reducible rfl
                 simp only [Act.put, List.setIfInBounds_toArray, List.set_cons_zero, List.set_cons_succ]))
            refine w_end ?_
            intro w5 T5
            go_wp2_with fail
            go_ret
            exact ⟨by rw [HVB.out]; rfl, below_add HB.out T5.2.2 HB.out.size⟩
          · have e1 : decide (x1 ≤ y1) = false := by simpa using hle
            have HRS := Lib.hid (hRS (by omega))
            clear hRS hRB hle
            refine region_classw (C := WfC wr.heap.size b1 (o1 + j * 5) ⟨x1, x2, x3, x4, x5⟩ ⟨y1, y2, y3, y4, y5⟩ true (wr.alloc (.cells (aca ⟨x1, x2, x3, x4, x5⟩) 64))) (by kernel_rfl) (by kernel_rfl) (HC0.out.below (Below.refl _ _).drew) ?_
            repeat (first
              | (refine w_skip (by rfl) (by rfl) ?_
                 simp only [Act.put, List.setIfInBounds_toArray, List.set_cons_zero, List.set_cons_succ])
              | (first
                   | refine w_val (v := ?_) (by rfl) (fun w9 hS => ?_) ?_
                   | refine w_valg (v := ?_) (by rfl) (by rfl) (fun w9 hS => ?_) ?_
                 rotate_left
                 · obtain ⟨⟨g0, g1, g2, g3, g4⟩, hy, -⟩ := hS
                   obtain ⟨f0, f1, f2, f3, f4⟩ := hy rfl
                   go_simp
                   try with_reducible rfl
                 simp only [Act.put, List.setIfInBounds_toArray, List.set_cons_zero, List.set_cons_succ])
              | (first
                   | refine w_call (by rfl) (fun w9 hS => ?_) KM.out ?_
                   | refine w_callg (by rfl) (by rfl) (fun w9 hS => ?_) KM.out ?_
                 · obtain ⟨⟨g0, g1, g2, g3, g4⟩, hy, -⟩ := hS
                   obtain ⟨f0, f1, f2, f3, f4⟩ := hy rfl
                   go_simp
                 simp only [Act.put, List.setIfInBounds_toArray, List.set_cons_zero, List.set_cons_succ]))
            refine w_end ?_
            intro w5 T5
            cases m
            · have HVB := Lib.hid (hVB rfl)
              clear hVS hVB
              go_wp2_with fail
              go_ret
              exact ⟨by rw [HVB.out]; rfl, below_add HB.out T5.2.2 HB.out.size⟩
            · have HVS := Lib.hid (hVS rfl)
              have HT := Lib.hid T5.2.2
              clear hVS hVB
              go_wp2_with fail
              go_roundw
              case rel => exact ⟨j + 1 + 1, by omega, by go_num, Lib.hid ⟨HRS.out, HVS.out⟩, below_add HB.out HT.out HB.out.size⟩
              case measure => simp [intOf]; omega
      · obtain rfl : k = xs.length := by omega
        have HB := Lib.hid hb
        have HG := Lib.hid (wf_good (rise_end HP.out.1) HLG.out (okV_end HP.out.2))
        clear hb
        go_wp2
        go_ret
        exact ⟨by rw [HG.out]; rfl, HB.out⟩
  · obtain rfl : xs = [] := List.eq_nil_of_length_eq_zero (by omega)
    clear hv h0 hl hW hlong
    go_enter Try.func65, Try.ntmps65
    go_wp2
    refine wp_loop_rounds 1 ?_
    rw [rounds_succ]
    go_wp2
    go_ret
    exact ⟨rfl, Below.refl _ _⟩
end Go.Proofs.Ythcakinllcffoaa

/- A16: May, and the reference's -/
namespace Go.Proofs.Ythcakinllcffoaa
open Go.RowKit
set_option linter.unusedVariables false

theorem ret_may {a b : Int} (h : a = b) : Ending.returned (.int .i64 a) = .returned (.int .i64 b) := by rw [h]

set_option maxRecDepth 100000 in
set_option maxHeartbeats 1000000 in
theorem may_any5 (p : Value) (ks : List Key) (v : Value) (xs : List Att) (w : World) (hs : Sch w p ks) (hv : Arow w v xs) (hW : ∀ a ∈ xs, AttW a) :
    Calls Try.prog 49 #[p, v] w fun e w' => e = .returned (.int .i64 (may5 ks xs)) ∧ Below w.heap.size w w' := by
  have hl := hv.len
  have hwf := wf_any v xs w hv hW
  cases hw5 : wf5 xs
  · rw [hw5] at hwf
    have HWF := Lib.hid hwf
    have HN := Lib.hid (may_3 (ks := ks) hw5)
    clear hv hs hW hwf hw5
    go_enter Try.func49, Try.ntmps49
    go_wp2_with (go_at_call 65; refine HWF.out.mono ?_; rintro e w1 ⟨rfl, hb1⟩)
    go_ret
    exact ⟨ret_may HN.out.symm, hb1⟩
  rw [hw5] at hwf
  have HWF := Lib.hid hwf
  have H5 := Lib.hid hw5
  clear hwf hw5
  obtain ⟨a1, cap1, rfl⟩ := hv.shape
  by_cases h0 : 0 < xs.length
  · obtain ⟨b1, o1, rfl, -, -, -, hbl, hat⟩ := Arow.opn hv h0
    have HAT := Lib.hid hat
    have HWA := Lib.hid hW
    have HS := Lib.hid hs
    clear hv hat hW hs
    go_enter Try.func49, Try.ntmps49
    go_wp2_with (go_at_call 65; refine HWF.out.mono ?_; rintro e w1 ⟨rfl, hb1⟩)
    have HB1 := Lib.hid hb1
    clear hb1
    go_loopw [12] (fun s12 wr => ∃ k : Nat, k ≤ xs.length ∧ s12 = .int .i64 k ∧ Hid (okF5 ks (xs.take k) = true) ∧ Below w.heap.size w wr) (fun s12 _ => xs.length - (intOf s12).toNat)
    case atStart => exact ⟨0, Nat.zero_le _, rfl, Lib.hid rfl, HB1.out⟩
    case round =>
      obtain ⟨k, hk, rfl, HP, hb⟩ := hrel
      by_cases hlt : k < xs.length
      · obtain ⟨c0, c1, c2, c3, c4⟩ := (HAT.out k hlt).below hb hbl
        have hw := HWA.out _ (List.getElem_mem hlt)
        have HF := Lib.hid (fun w1 (h1 : Below w.heap.size w w1) => fits_any p ks xs[k].key xs[k].k xs[k].n xs[k].f xs[k].s w1 (HS.out.below h1 (Nat.le_refl _)) hw.key hw.f0 hw.f1)
        have hFS := fun h => okF_step hlt HP.out h
        have hFB := fun h => may_4 H5.out (okF_bad (ks := ks) hlt h)
        clear hw
        generalize xs[k] = x at *
        obtain ⟨x1, x2, x3, x4, x5⟩ := x
        simp only at c0 c1 c2 c3 c4 HF hFS hFB
        have hB1 := hb.alloc hb.size (.cells (aca ⟨x1, x2, x3, x4, x5⟩) 64)
        have hbx := ABox.box ⟨x1, x2, x3, x4, x5⟩ wr 64
        have HFX := Lib.hid (HF.out _ hB1)
        have HB := Lib.hid hB1
        clear HF hB1 hb
        generalize fitsB ks x1 x2 x3 x4 x5 = m at *
        cases m
        · have HN := Lib.hid (hFB rfl)
          clear hFS hFB
          go_wp2_with (go_at_call 66; refine HFX.out.mono ?_; rintro e w2 ⟨rfl, hb2⟩)
          go_ret
          exact ⟨ret_may HN.out.symm, below_add HB.out hb2 HB.out.size⟩
        · have HN := Lib.hid (hFS rfl)
          clear hFS hFB
          go_wp2_with (go_at_call 66; refine HFX.out.mono ?_; rintro e w2 ⟨rfl, hb2⟩)
          go_roundw
          case rel => exact ⟨k + 1, by omega, by go_num, HN, below_add HB.out hb2 HB.out.size⟩
          case measure => simp [intOf]; omega
      · obtain rfl : k = xs.length := by omega
        have HB := Lib.hid hb
        have HG := Lib.hid (may_0 H5.out (okF_end HP.out))
        clear hb
        go_wp2
        go_ret
        exact ⟨ret_may HG.out.symm, HB.out⟩
  · obtain rfl : xs = [] := List.eq_nil_of_length_eq_zero (by omega)
    clear hv h0 hl hW hs H5
    go_enter Try.func49, Try.ntmps49
    go_wp2_with (go_at_call 65; refine HWF.out.mono ?_; rintro e w1 ⟨rfl, hb1⟩)
    refine wp_loop_rounds 1 ?_
    rw [rounds_succ]
    go_wp2
    go_ret
    exact ⟨rfl, hb1⟩

end Go.Proofs.Ythcakinllcffoaa

/- A19: what may be stays so -/
namespace Go.Proofs.Ythcakinllcffoaa
open Go.RowKit
set_option linter.unusedVariables false

theorem nodup_le : ∀ (l m : List Int), l.Nodup → (∀ x ∈ l, x ∈ m) → l.length ≤ m.length
  | [], m, _, _ => Nat.zero_le _
  | x :: r, m, hn, hs => by
    obtain ⟨h1, h2⟩ := List.nodup_cons.1 hn
    have hx := hs x (by simp)
    have := nodup_le r (m.erase x) h2 (fun y hy => (List.mem_erase_of_ne (fun e => h1 (by rw [← e]; exact hy))).2 (hs y (by simp [hy])))
    rw [List.length_erase_of_mem hx] at this
    have hp := List.length_pos_of_mem hx
    simp
    omega
theorem fits_in {ks : List Key} {id k n f : Int} {s : ByteArray} (h : fitsB ks id k n f s = true) : (∃ key ∈ ks, key.id = id) ∧ vmay k n f s = true := by
  cases hf : fnd ks id with
  | none => rw [fitsB_none hf] at h; cases h
  | some key =>
    rw [fitsB_some hf] at h
    exact ⟨⟨key, (fnd_some hf).1, (fnd_some hf).2⟩, by simp at h; exact h.2⟩
theorem okF_mem {ks : List Key} {xs : List Att} : okF5 ks xs = true ↔ ∀ a ∈ xs, fitsB ks a.key a.k a.n a.f a.s = true := by unfold okF5; simp
theorem okV_mem {xs : List Att} : okV xs = true ↔ ∀ a ∈ xs, vmay a.k a.n a.f a.s = true := by unfold okV; simp
theorem lo_mem {xs : List Att} {key : Int} {a : Att} (h : a ∈ lo5 xs key) : a ∈ xs ∧ a.key < key := by
  have := List.mem_filter.1 h
  exact ⟨this.1, by simpa using this.2⟩
theorem hi_mem {xs : List Att} {key : Int} {a : Att} (h : a ∈ hi5 xs key) : a ∈ xs ∧ key < a.key := by
  have := List.mem_filter.1 h
  exact ⟨this.1, by simpa using this.2⟩
theorem rise_with {xs : List Att} (a : Att) (hr : Rise xs) : Rise (with5 xs a) := by
  refine List.pairwise_append.2 ⟨hr.sublist List.filter_sublist, List.pairwise_cons.2 ⟨fun b hb => (hi_mem hb).2, hr.sublist List.filter_sublist⟩, fun b hb c hc => ?_⟩
  have h1 := (lo_mem hb).2
  rcases List.mem_cons.1 hc with rfl | hc
  · exact h1
  · have := (hi_mem hc).2; omega
theorem rise_without {xs : List Att} (key : Int) (hr : Rise xs) : Rise (without5 xs key) := by
  refine List.pairwise_append.2 ⟨hr.sublist List.filter_sublist, hr.sublist List.filter_sublist, fun b hb c hc => ?_⟩
  have h1 := (lo_mem hb).2
  have := (hi_mem hc).2
  omega
theorem without_mem {xs : List Att} {key : Int} {a : Att} : a ∈ without5 xs key ↔ a ∈ xs ∧ a.key ≠ key := by
  unfold without5 lo5 hi5
  rw [List.mem_append, List.mem_filter, List.mem_filter]
  simp
  constructor
  · rintro (⟨h1, h2⟩ | ⟨h1, h2⟩) <;> exact ⟨h1, by omega⟩
  · rintro ⟨h1, h2⟩
    by_cases h : a.key < key
    · exact .inl ⟨h1, h⟩
    · exact .inr ⟨h1, by omega⟩
theorem with_mem {xs : List Att} {a b : Att} : b ∈ with5 xs a ↔ b = a ∨ b ∈ xs ∧ b.key ≠ a.key := by
  have h := @without_mem xs a.key b
  unfold without5 at h
  unfold with5
  rw [List.mem_append, List.mem_cons]
  rw [List.mem_append] at h
  rw [← h]
  constructor
  · rintro (h1 | h1 | h1)
    · exact .inr (.inl h1)
    · exact .inl h1
    · exact .inr (.inr h1)
  · rintro (h1 | h1 | h1)
    · exact .inr (.inl h1)
    · exact .inl h1
    · exact .inr (.inr h1)
end Go.Proofs.Ythcakinllcffoaa

/- A17: known -/
namespace Go.Proofs.Ythcakinllcffoaa
open Go.RowKit
set_option linter.unusedVariables false

@[reducible] def k1 : Att := ⟨1, 2, 1, 0, ⟨#[]⟩⟩
@[reducible] def k3 : Att := ⟨3, 2, 1, 0, ⟨#[]⟩⟩
@[reducible] def k5 : Att := ⟨5, 2, 1, 0, ⟨#[]⟩⟩
end Go.Proofs.Ythcakinllcffoaa

/- A20: AttrsStay -/
namespace Go.Proofs.Ythcakinllcffoaa
open Go.RowKit
set_option linter.unusedVariables false

theorem get_rise (v : Value) (xs : List Att) (key : Int) (hr : Rise xs) (w : World) (hv : Arow w v xs) (hl : xs.length ≤ 1000000) :
    Calls Try.prog 61 #[v, .int .i64 key] w fun e w' => e = .returned (getV xs key) ∧ Below w.heap.size w w' :=
  (get_any5 v xs key w hv hl).mono fun e w' ⟨a, b, hab, he, hb⟩ => by
    obtain ⟨rfl, rfl⟩ := hab hr
    exact ⟨he, hb⟩

end Go.Proofs.Ythcakinllcffoaa

/- A21: sets are told by their attributes -/
namespace Go.Proofs.Ythcakinllcffoaa
open Go.RowKit
set_option linter.unusedVariables false

theorem rise_ext : ∀ (a b : List Att), Rise a → Rise b → (∀ k, k ∈ a ↔ k ∈ b) → a = b
  | [], [], _, _, _ => rfl
  | [], y :: s, _, _, h => absurd ((h y).2 (by simp)) (by simp)
  | x :: r, [], _, _, h => absurd ((h x).1 (by simp)) (by simp)
  | x :: r, y :: s, ha, hb, h => by
    obtain ⟨a1, a2⟩ := List.pairwise_cons.1 ha
    obtain ⟨b1, b2⟩ := List.pairwise_cons.1 hb
    have hxy : x = y := by
      rcases List.mem_cons.1 ((h x).1 (by simp)) with e | hx
      · exact e
      · rcases List.mem_cons.1 ((h y).2 (by simp)) with e | hy
        · exact e.symm
        · have := b1 x hx
          have := a1 y hy
          omega
    subst hxy
    congr 1
    refine rise_ext r s a2 b2 fun k => ⟨fun hk => ?_, fun hk => ?_⟩
    · rcases List.mem_cons.1 ((h k).1 (by simp [hk])) with e | hk'
      · subst e; have := a1 k hk; omega
      · exact hk'
    · rcases List.mem_cons.1 ((h k).2 (by simp [hk])) with e | hk'
      · subst e; have := b1 k hk; omega
      · exact hk'
theorem rise_key {xs : List Att} (hr : Rise xs) {a b : Att} (ha : a ∈ xs) (hb : b ∈ xs) (h : a.key = b.key) : a = b := by
  induction xs with
  | nil => cases ha
  | cons x r ih =>
    obtain ⟨h1, h2⟩ := List.pairwise_cons.1 hr
    rcases List.mem_cons.1 ha with e1 | ha
    · rcases List.mem_cons.1 hb with e2 | hb
      · rw [e1, e2]
      · have := h1 b hb; subst e1; omega
    · rcases List.mem_cons.1 hb with e2 | hb
      · have := h1 a ha; subst e2; omega
      · exact ih h2 ha hb
theorem getA_mem {xs : List Att} (hr : Rise xs) {a : Att} (ha : a ∈ xs) : getA xs a.key = some a := by
  cases h : getA xs a.key with
  | none =>
    unfold getA at h
    rw [List.find?_eq_none] at h
    exact absurd (h a ha) (by simp)
  | some b =>
    unfold getA at h
    have h1 := List.mem_of_find?_eq_some h
    have h2 := List.find?_some h
    rw [rise_key hr h1 ha (by simpa using h2)]
theorem getA_some {xs : List Att} {key : Int} {a : Att} (h : getA xs key = some a) : a ∈ xs ∧ a.key = key := by
  unfold getA at h
  exact ⟨List.mem_of_find?_eq_some h, by simpa using List.find?_some h⟩
theorem getA_none {xs : List Att} {key : Int} : getA xs key = none ↔ ∀ a ∈ xs, a.key ≠ key := by
  unfold getA
  rw [List.find?_eq_none]
  simp
/-! ### the parts -/
end Go.Proofs.Ythcakinllcffoaa

/- C1: changes as plain data -/
namespace Go.Proofs.Ythcakinllcffoaa
open Go.RowKit
set_option linter.unusedVariables false

/-- A change: its key, whether it is gone, and the value's kind, number, bits, text. -/
structure Chg where
  key : Int
  g : Bool
  k : Int
  n : Int
  f : Int
  s : ByteArray
deriving DecidableEq

@[reducible] def cv (a : Chg) : Value := .agg #[.int .i64 a.key, .bool a.g, .int .u8 a.k, .int .i64 a.n, .int .u64 a.f, .string a.s]
@[reducible] def cc (a : Chg) : List Value := [.int .i64 a.key, .bool a.g, .int .u8 a.k, .int .i64 a.n, .int .u64 a.f, .string a.s]
@[reducible] def cca (a : Chg) : Array Value := #[.int .i64 a.key, .bool a.g, .int .u8 a.k, .int .i64 a.n, .int .u64 a.f, .string a.s]
@[reducible] def noChg : Chg := ⟨0, false, 0, 0, 0, ⟨#[]⟩⟩
instance : Inhabited Chg := ⟨noChg⟩

theorem cc_one (a : Chg) : ∀ u ∈ cc a, u.oneCell' = true := by
  intro u hu
  simp at hu
  rcases hu with rfl | rfl | rfl | rfl | rfl | rfl <;> rfl
/-- How a change lies: six cells. -/
def chC : Cel Chg := ⟨cc, 6, fun _ => rfl, cc_one, by decide⟩
theorem chC_m : chC.m = 6 := rfl
theorem chC_c (a : Chg) : chC.c a = cc a := rfl

/-- What a change's numbers are within. -/
structure ChgW (a : Chg) : Prop where
  key : (Lit.int .i64 a.key).wf = true
  k : (Lit.int .u8 a.k).wf = true
  n : (Lit.int .i64 a.n).wf = true
  f : (Lit.int .u64 a.f).wf = true
  s : a.s.size ≤ maxLen
theorem ChgW.f0 {a : Chg} (h : ChgW a) : 0 ≤ a.f := by have := Go.bounds_u64 h.f; omega
theorem ChgW.f1 {a : Chg} (h : ChgW a) : a.f < 18446744073709551616 := by have := Go.bounds_u64 h.f; omega

/-- Its six cells at a place; at a block's head. -/
@[reducible] def CAt (b o : Nat) (a : Chg) (w : World) : Prop :=
  w.cell? ⟨b, o, none⟩ = some (.int .i64 a.key) ∧ w.cell? ⟨b, o + 1, none⟩ = some (.bool a.g) ∧ w.cell? ⟨b, o + 2, none⟩ = some (.int .u8 a.k) ∧ w.cell? ⟨b, o + 3, none⟩ = some (.int .i64 a.n) ∧ w.cell? ⟨b, o + 4, none⟩ = some (.int .u64 a.f) ∧ w.cell? ⟨b, o + 5, none⟩ = some (.string a.s)
@[reducible] def CBox (b : Nat) (a : Chg) (w : World) : Prop :=
  w.cell? ⟨b, 0, none⟩ = some (.int .i64 a.key) ∧ w.cell? ⟨b, 1, none⟩ = some (.bool a.g) ∧ w.cell? ⟨b, 2, none⟩ = some (.int .u8 a.k) ∧ w.cell? ⟨b, 3, none⟩ = some (.int .i64 a.n) ∧ w.cell? ⟨b, 4, none⟩ = some (.int .u64 a.f) ∧ w.cell? ⟨b, 5, none⟩ = some (.string a.s)
theorem CAt.below {B b o : Nat} {a : Chg} {w w' : World} (h : CAt b o a w) (hb : Below B w w') (hB : b < B) : CAt b o a w' := by
  obtain ⟨h0, h1, h2, h3, h4, h5⟩ := h
  exact ⟨(hb.cell (p := ⟨b, _, none⟩) hB).trans h0, (hb.cell (p := ⟨b, _, none⟩) hB).trans h1, (hb.cell (p := ⟨b, _, none⟩) hB).trans h2, (hb.cell (p := ⟨b, _, none⟩) hB).trans h3, (hb.cell (p := ⟨b, _, none⟩) hB).trans h4, (hb.cell (p := ⟨b, _, none⟩) hB).trans h5⟩
theorem CBox.below {B b : Nat} {a : Chg} {w w' : World} (h : CBox b a w) (hb : Below B w w') (hB : b < B) : CBox b a w' := by
  obtain ⟨h0, h1, h2, h3, h4, h5⟩ := h
  exact ⟨(hb.cell (p := ⟨b, _, none⟩) hB).trans h0, (hb.cell (p := ⟨b, _, none⟩) hB).trans h1, (hb.cell (p := ⟨b, _, none⟩) hB).trans h2, (hb.cell (p := ⟨b, _, none⟩) hB).trans h3, (hb.cell (p := ⟨b, _, none⟩) hB).trans h4, (hb.cell (p := ⟨b, _, none⟩) hB).trans h5⟩
theorem CBox.box (a : Chg) (w : World) (t : TypeId) : CBox w.heap.size a (w.alloc (.cells (cca a) t)) := by
  refine ⟨?_, ?_, ?_, ?_, ?_, ?_⟩ <;> (rw [cell_of_row _ w.heap.size _ _ t (0, 0) (heap_alloc_new w _)]; rfl)
theorem CBox.lt {b : Nat} {a : Chg} {w : World} (h : CBox b a w) : b < w.heap.size := World.block_lt_of_cell? w _ h.1
theorem CAt.lt {b o : Nat} {a : Chg} {w : World} (h : CAt b o a w) : b < w.heap.size := World.block_lt_of_cell? w _ h.1

/-- A slice of changes that reads as xs. -/
@[reducible] def Crow (w : World) (v : Value) (xs : List Chg) : Prop := Row chC w v xs
theorem Crow.opn {w : World} {a : Option Addr} {n cap : Nat} {xs : List Chg} (h : Crow w (.slice a n cap) xs) (h0 : 0 < xs.length) :
    ∃ b off, a = some ⟨b, off, none⟩ ∧ n = xs.length ∧ xs.length ≤ cap ∧ cap ≤ maxLen ∧ b < w.heap.size ∧ (∀ j (hj : j < xs.length), CAt b (off + j * 6) xs[j] w) := by
  obtain ⟨b, off, ha, hn, hc, hm, hb, hat, -⟩ := Row.opened h h0
  refine ⟨b, off, ha, hn, hc, hm, hb, fun j hj => ⟨?_, ?_, ?_, ?_, ?_, ?_⟩⟩
  · exact hat j hj 0 _ rfl
  · exact hat j hj 1 _ rfl
  · exact hat j hj 2 _ rfl
  · exact hat j hj 3 _ rfl
  · exact hat j hj 4 _ rfl
  · exact hat j hj 5 _ rfl

set_option maxRecDepth 100000 in
theorem info_ch : ∃ i0, Try.prog.info? 49 = some i0 ∧ i0.zero = some (cv noChg) ∧ i0.size = 6 ∧ i0.bytes = 56 := by
  refine ⟨_, rfl, ?_, ?_, ?_⟩ <;> kernel_rfl
set_option maxRecDepth 100000 in
theorem info_at : ∃ i0, Try.prog.info? 64 = some i0 ∧ i0.zero = some (av noAtt) ∧ i0.size = 5 ∧ i0.bytes = 48 := by
  refine ⟨_, rfl, ?_, ?_, ?_⟩ <;> kernel_rfl

def ceq (a b : Chg) : Bool := (a.key == b.key) && ((a.g == b.g) && ((a.k == b.k) && (a.n == b.n) && (a.f == b.f) && (a.s.toList == b.s.toList)))
theorem ceq_iff (a b : Chg) : ceq a b = true ↔ a = b := by
  obtain ⟨a1, a0, a2, a3, a4, a5⟩ := a
  obtain ⟨b1, b0, b2, b3, b4, b5⟩ := b
  have hs : a5.toList = b5.toList ↔ a5 = b5 := by
    rw [ByteArray.toList_eq, ByteArray.toList_eq]
    exact ⟨fun h => Go.WideShapes.bytes_inj h, fun h => by rw [h]⟩
  simp [ceq, hs, and_assoc]
theorem ceq_dec (a b : Chg) : ceq a b = decide (a = b) := by
  rw [Bool.eq_iff_iff, ceq_iff]; simp

set_option maxRecDepth 100000 in
set_option maxHeartbeats 800000 in
theorem chg_in (a b : Chg) (w : World) : (Op.equalIn 10000 49 (cv a) (cv b)).run Try.prog w = .ok (ceq a b) w := by
  obtain ⟨a1, a0, a2, a3, a4, a5⟩ := a
  obtain ⟨b1, b0, b2, b3, b4, b5⟩ := b
  have hS : Try.prog.underlying 49 = some (.struct (Try.prog.fieldsOf 49)) := by kernel_rfl
  have hp : Try.prog.stoodInHeld 49 = false := by kernel_rfl
  have u0 := Try.underlying3
  have ag0 := Try.isAgg3
  have ag4 := Try.isAgg4
  have ag5 := Try.isAgg47
  have z0 := Try.sizeOf3
  have z4 := Try.sizeOf4
  have z5 := Try.sizeOf47
  rw [show (10000 : Nat) = 9999 + 1 from rfl, run_equalIn_agg w 9999 49 _ _ hS hp]
  simp only [Program.fieldsOf, Try.underlying49]
  simp only [Op.eqFields, ne_eq]
  go_simp
  unfold ceq
  by_cases h1 : a1 = b1 <;> by_cases h0 : a0 = b0 <;> by_cases h2 : a2 = b2 <;> by_cases h3 : a3 = b3 <;> by_cases h4 : a4 = b4 <;> by_cases h5 : a5.toList = b5.toList <;> simp [h1, h0, h2, h3, h4, h5]
theorem chg_eql (a b : Chg) (w : World) : (binOp .eql 49 (cv a) (cv b)).run Try.prog w = .ok (.bool (ceq a b)) w := by
  rw [run_eql_struct, chg_in]; rfl
theorem chg_neq (a b : Chg) (w : World) : (binOp .neq 49 (cv a) (cv b)).run Try.prog w = .ok (.bool (!ceq a b)) w := by
  rw [run_neq_struct, chg_in]; rfl

/-- An attribute as a change, and back. -/
@[reducible] def toC (a : Att) : Chg := ⟨a.key, false, a.k, a.n, a.f, a.s⟩
@[reducible] def toA (c : Chg) : Att := ⟨c.key, c.k, c.n, c.f, c.s⟩
/-- A new row of one, of two. -/
theorem crow_one (w : World) (x : Chg) (t : TypeId) : Crow (w.alloc (.cells (cca x) t)) (.slice (some ⟨w.heap.size, 0, none⟩) 1 1) [x] := Row.built (C := chC) w t [x] (by unfold maxLen; simp)
theorem crow_two (w : World) (x y : Chg) (t : TypeId) : Crow (w.alloc (.cells (cca x ++ cca y) t)) (.slice (some ⟨w.heap.size, 0, none⟩) 2 2) [x, y] := Row.built (C := chC) w t [x, y] (by unfold maxLen; simp)
end Go.Proofs.Ythcakinllcffoaa

/- C2: two rows side by side, as plain data -/
namespace Go.Proofs.Ythcakinllcffoaa
open Go.RowKit
set_option linter.unusedVariables false

/-- Of each key that one of two rows has, what each has of it. -/
def sbsIn (x : Chg) (f : List Chg → List (Option Chg × Option Chg)) : List Chg → List (Option Chg × Option Chg)
  | [] => (some x, none) :: f []
  | y :: r => if x.key < y.key then (some x, none) :: f (y :: r) else if y.key < x.key then (none, some y) :: sbsIn x f r else (some x, some y) :: f r
def sbs : List Chg → List Chg → List (Option Chg × Option Chg)
  | [], r => r.map fun y => (none, some y)
  | x :: l, r => sbsIn x (fun s => sbs l s) r
theorem sbs_nn : sbs [] [] = [] := rfl
theorem sbs_cn (x : Chg) (l : List Chg) : sbs (x :: l) [] = (some x, none) :: sbs l [] := rfl
theorem sbs_nc (y : Chg) (r : List Chg) : sbs [] (y :: r) = (none, some y) :: sbs [] r := rfl
theorem sbs_lt {x y : Chg} {l r : List Chg} (h : x.key < y.key) : sbs (x :: l) (y :: r) = (some x, none) :: sbs l (y :: r) := by
  show sbsIn x (fun s => sbs l s) (y :: r) = _
  rw [sbsIn, if_pos h]
theorem sbs_gt {x y : Chg} {l r : List Chg} (h : y.key < x.key) : sbs (x :: l) (y :: r) = (none, some y) :: sbs (x :: l) r := by
  show sbsIn x (fun s => sbs l s) (y :: r) = _
  rw [sbsIn, if_neg (by omega), if_pos h]
  rfl
theorem sbs_eq {x y : Chg} {l r : List Chg} (h1 : ¬ x.key < y.key) (h2 : ¬ y.key < x.key) : sbs (x :: l) (y :: r) = (some x, some y) :: sbs l r := by
  show sbsIn x (fun s => sbs l s) (y :: r) = _
  rw [sbsIn, if_neg h1, if_neg h2]

/-- A pointer to a change, or to none. -/
def Ptr (W : World) (p : Value) : Option Chg → Prop
  | none => p = .pointer none
  | some x => ∃ b o, p = .pointer (some ⟨b, o, none⟩) ∧ CAt b o x W
theorem ptr_none (W : World) : Ptr W (.pointer none) none := rfl
theorem ptr_some {W : World} {b o : Nat} {x : Chg} (h : CAt b o x W) : Ptr W (.pointer (some ⟨b, o, none⟩)) (some x) := ⟨b, o, rfl, h⟩

@[reducible] def Told : Type := List (Option Chg × Option Chg)
/-- One of both, at least. -/
def One : Option Chg → Option Chg → Prop
  | none, none => False
  | _, _ => True
/-- What is asked of the function that is told each key. -/
structure Pays (g : Nat) (caps : Array Value) (I : Told → World → Prop) (v1 v2 : Value) (xs ys : List Chg) : Prop where
  enters : ∀ args w, (callFunc g args).run Try.prog w = .ok (.enter g args) w
  row1 : ∀ T W, I T W → Crow W v1 xs
  row2 : ∀ T W, I T W → Crow W v2 ys
  drew : ∀ T W n, I T W → I T (W.drewN n)
  pay : ∀ T x y p q W, I T W → One x y → T.length < xs.length + ys.length → Ptr W p x → Ptr W q y → Calls Try.prog g (#[p, q] ++ caps) W fun e W' => e = .returned (.tuple #[]) ∧ I (T ++ [(x, y)]) W'

/-- The loop's state. -/
structure SRel (I : Told → World → Prop) (v1 v2 : Value) (xs ys : List Chg) (a1 : Option Addr) (n1 c1 : Nat) (a2 : Option Addr) (n2 c2 : Nat) (l r : List Chg) (T : Told) (wr : World) : Prop where
  t1 : ∀ W, Crow W v1 xs → Crow W (.slice a1 n1 c1) l
  t2 : ∀ W, Crow W v2 ys → Crow W (.slice a2 n2 c2) r
  m1 : n1 = l.length
  m2 : n2 = r.length
  inv : I T wr
  eq : T ++ sbs l r = sbs xs ys
  len : T.length + (l.length + r.length) ≤ xs.length + ys.length

theorem crow_next {x : Chg} {l : List Chg} {a : Option Addr} {n c : Nat} {W : World} (h : Crow W (.slice a (n + 1) c) (x :: l)) :
    (c = 1 → Crow W (.slice a n 0) l) ∧ (¬ c = 1 → Crow W (.slice (a.map fun y => y.add 6) n (c - 1)) l) := by
  have hn : n = l.length := by
    obtain ⟨_, _, e⟩ := h.shape
    injection e with _ e _
    simpa using e
  subst hn
  have := Row.tail (lo := 1) h (by simp)
  simpa [chC_m] using this
theorem SRel.left {I : Told → World → Prop} {v1 v2 : Value} {xs ys : List Chg} {b o n c : Nat} {a2 : Option Addr} {n2 c2 : Nat} {x : Chg} {l r : List Chg} {T : Told} {wr w' : World}
    (h : SRel I v1 v2 xs ys (some ⟨b, o, none⟩) (n + 1) c a2 n2 c2 (x :: l) r T wr) (hs : sbs (x :: l) r = (some x, none) :: sbs l r) (hI : I (T ++ [(some x, none)]) w') :
    (c = 1 → SRel I v1 v2 xs ys (some ⟨b, o, none⟩) n 0 a2 n2 c2 l r (T ++ [(some x, none)]) w') ∧ (¬ c = 1 → SRel I v1 v2 xs ys (some ⟨b, o + 6, none⟩) n (c - 1) a2 n2 c2 l r (T ++ [(some x, none)]) w') := by
  have hn : n = l.length := by have := h.m1; simpa using this
  have he : T ++ [(some x, none)] ++ sbs l r = sbs xs ys := by rw [← h.eq, hs]; simp
  have hl : (T ++ [(some x, (none : Option Chg))]).length + (l.length + r.length) ≤ xs.length + ys.length := by have := h.len; simp at this ⊢; omega
  exact ⟨fun hc => ⟨fun W hW => (crow_next (h.t1 W hW)).1 hc, h.t2, hn, h.m2, hI, he, hl⟩, fun hc => ⟨fun W hW => (crow_next (h.t1 W hW)).2 hc, h.t2, hn, h.m2, hI, he, hl⟩⟩
theorem SRel.right {I : Told → World → Prop} {v1 v2 : Value} {xs ys : List Chg} {b o n c : Nat} {a1 : Option Addr} {n1 c1 : Nat} {y : Chg} {l r : List Chg} {T : Told} {wr w' : World}
    (h : SRel I v1 v2 xs ys a1 n1 c1 (some ⟨b, o, none⟩) (n + 1) c l (y :: r) T wr) (hs : sbs l (y :: r) = (none, some y) :: sbs l r) (hI : I (T ++ [(none, some y)]) w') :
    (c = 1 → SRel I v1 v2 xs ys a1 n1 c1 (some ⟨b, o, none⟩) n 0 l r (T ++ [(none, some y)]) w') ∧ (¬ c = 1 → SRel I v1 v2 xs ys a1 n1 c1 (some ⟨b, o + 6, none⟩) n (c - 1) l r (T ++ [(none, some y)]) w') := by
  have hn : n = r.length := by have := h.m2; simpa using this
  have he : T ++ [(none, some y)] ++ sbs l r = sbs xs ys := by rw [← h.eq, hs]; simp
  have hl : (T ++ [((none : Option Chg), some y)]).length + (l.length + r.length) ≤ xs.length + ys.length := by have := h.len; simp at this ⊢; omega
  exact ⟨fun hc => ⟨h.t1, fun W hW => (crow_next (h.t2 W hW)).1 hc, h.m1, hn, hI, he, hl⟩, fun hc => ⟨h.t1, fun W hW => (crow_next (h.t2 W hW)).2 hc, h.m1, hn, hI, he, hl⟩⟩
theorem SRel.both {I : Told → World → Prop} {v1 v2 : Value} {xs ys : List Chg} {b o n c b2 o2 n2 c2 : Nat} {x y : Chg} {l r : List Chg} {T : Told} {wr w' : World}
    (h : SRel I v1 v2 xs ys (some ⟨b, o, none⟩) (n + 1) c (some ⟨b2, o2, none⟩) (n2 + 1) c2 (x :: l) (y :: r) T wr) (hs : sbs (x :: l) (y :: r) = (some x, some y) :: sbs l r) (hI : I (T ++ [(some x, some y)]) w') :
    (c = 1 → c2 = 1 → SRel I v1 v2 xs ys (some ⟨b, o, none⟩) n 0 (some ⟨b2, o2, none⟩) n2 0 l r (T ++ [(some x, some y)]) w') ∧ (c = 1 → ¬ c2 = 1 → SRel I v1 v2 xs ys (some ⟨b, o, none⟩) n 0 (some ⟨b2, o2 + 6, none⟩) n2 (c2 - 1) l r (T ++ [(some x, some y)]) w') ∧
    (¬ c = 1 → c2 = 1 → SRel I v1 v2 xs ys (some ⟨b, o + 6, none⟩) n (c - 1) (some ⟨b2, o2, none⟩) n2 0 l r (T ++ [(some x, some y)]) w') ∧ (¬ c = 1 → ¬ c2 = 1 → SRel I v1 v2 xs ys (some ⟨b, o + 6, none⟩) n (c - 1) (some ⟨b2, o2 + 6, none⟩) n2 (c2 - 1) l r (T ++ [(some x, some y)]) w') := by
  have hn : n = l.length := by have := h.m1; simpa using this
  have hn2 : n2 = r.length := by have := h.m2; simpa using this
  have he : T ++ [(some x, some y)] ++ sbs l r = sbs xs ys := by rw [← h.eq, hs]; simp
  have hl : (T ++ [(some x, some y)]).length + (l.length + r.length) ≤ xs.length + ys.length := by have := h.len; simp at this ⊢; omega
  exact ⟨fun hc hd => ⟨fun W hW => (crow_next (h.t1 W hW)).1 hc, fun W hW => (crow_next (h.t2 W hW)).1 hd, hn, hn2, hI, he, hl⟩, fun hc hd => ⟨fun W hW => (crow_next (h.t1 W hW)).1 hc, fun W hW => (crow_next (h.t2 W hW)).2 hd, hn, hn2, hI, he, hl⟩,
    fun hc hd => ⟨fun W hW => (crow_next (h.t1 W hW)).2 hc, fun W hW => (crow_next (h.t2 W hW)).1 hd, hn, hn2, hI, he, hl⟩, fun hc hd => ⟨fun W hW => (crow_next (h.t1 W hW)).2 hc, fun W hW => (crow_next (h.t2 W hW)).2 hd, hn, hn2, hI, he, hl⟩⟩
/-- What a round has at hand of a row that is not at its end. -/
theorem head_at {W : World} {a : Option Addr} {n c : Nat} {x : Chg} {l : List Chg} (h : Crow W (.slice a n c) (x :: l)) : ∃ b o m, a = some ⟨b, o, none⟩ ∧ n = m + 1 ∧ m + 1 ≤ c ∧ c ≤ maxLen ∧ CAt b o x W := by
  obtain ⟨b, o, rfl, hn, hc, hm, -, hat⟩ := Crow.opn h (by simp)
  refine ⟨b, o, l.length, rfl, by simpa using hn, by simpa using hc, hm, ?_⟩
  have := hat 0 (by simp)
  simpa only [Nat.zero_mul, Nat.add_zero, List.getElem_cons_zero] using this
def slLen : Value → Nat
  | .slice _ n _ => n
  | _ => 0

set_option maxRecDepth 100000 in
set_option maxHeartbeats 2000000 in
theorem side_any (g : Nat) (caps : Array Value) (v1 v2 : Value) (xs ys : List Chg) (I : Told → World → Prop) (hp : Pays g caps I v1 v2 xs ys) (w : World) (hI : I [] w) :
    Calls Try.prog 57 #[v1, v2, .func (.func g) #[] caps] w fun e w' => e = .returned (.tuple #[]) ∧ I (sbs xs ys) w' := by
  have eg := hp.enters
  have HP := Lib.hid hp
  obtain ⟨a1, c1, e1⟩ := (hp.row1 _ _ hI).shape
  obtain ⟨a2, c2, e2⟩ := (hp.row2 _ _ hI).shape
  have hini : SRel I v1 v2 xs ys a1 xs.length c1 a2 ys.length c2 xs ys [] w := ⟨fun W h => by rw [← e1]; exact h, fun W h => by rw [← e2]; exact h, rfl, rfl, hI, rfl, by simp⟩
  generalize hn1 : xs.length = N1 at hini e1
  generalize hn2 : ys.length = N2 at hini e2
  have HI := Lib.hid hini
  have hgo : ∀ (w : World) (a1 : Option Addr) (N1 c1 : Nat) (a2 : Option Addr) (N2 c2 : Nat), Hid (SRel I v1 v2 xs ys a1 N1 c1 a2 N2 c2 xs ys [] w) → Calls Try.prog 57 #[.slice a1 N1 c1, .slice a2 N2 c2, .func (.func g) #[] caps] w fun e w' => e = .returned (.tuple #[]) ∧ I (sbs xs ys) w' := by
    clear hini hI e1 e2 HI hn1 hn2
    clear hp
    intro w a1 N1 c1 a2 N2 c2 HI
    go_enter Try.func57, Try.ntmps57
    go_wp2
    go_step3
    go_wp2
    go_step3
    go_wp2
    go_loopw [0, 1] (fun s0 s1 wr => ∃ a1 n1 c1 a2 n2 c2 l r T, s0 = .slice a1 n1 c1 ∧ s1 = .slice a2 n2 c2 ∧ Hid (SRel I v1 v2 xs ys a1 n1 c1 a2 n2 c2 l r T wr)) (fun s0 s1 _ => slLen s0 + slLen s1)
    case atStart => exact ⟨_, _, _, _, _, _, _, _, _, rfl, rfl, HI⟩
    case round =>
      clear HI
      obtain ⟨b1, n1, d1, b2, n2, d2, l, r, T, rfl, rfl, HR⟩ := hrel
      cases l with
      | nil =>
        obtain rfl : n1 = 0 := HR.out.m1
        cases r with
        | nil =>
          obtain rfl : n2 = 0 := HR.out.m2
          have hend : I (sbs xs ys) wr := by have := HR.out.eq; rw [sbs_nn, List.append_nil] at this; rw [← this]; exact HR.out.inv
          have HE := Lib.hid hend
          clear hend HR HP
          go_wp2
          rw [Exit.noGoto_normal]
          go_end0
          exact ⟨rfl, HE.out⟩
        | cons y r =>
          obtain ⟨b2, o2, m2, rfl, rfl, hmc2, hcm2, hat2⟩ := head_at (HR.out.t2 _ (HP.out.row2 _ _ HR.out.inv))
          have z2 : ((m2 : Int) + 1 == 0) = false := by simp; omega
          have hm632 : (m2 : Int) + 1 ≤ 9223372036854775807 := by unfold maxLen at hcm2; omega
          have h012 : (0 : Int) < (m2 : Int) + 1 := by omega
          have h112 : (1 : Int) ≤ (m2 : Int) + 1 := by omega
          have hmc21 : (m2 : Int) + 1 ≤ (d2 : Int) := by omega
          have hlen : T.length < xs.length + ys.length := by have := HR.out.len; simp at this; omega
          have HN := Lib.hid (fun W hI => HR.out.right (w' := W) (sbs_nc y r) hI)
          have HQ := Lib.hid (fun n => HP.out.pay T none (some y) (.pointer none) (.pointer (some ⟨b2, o2, none⟩)) (wr.drewN n) (HP.out.drew _ _ _ HR.out.inv) trivial hlen (ptr_none _) (ptr_some (hat2.below (blw_drewN (Below.refl _ _) n) hat2.lt)))
          clear hat2 HP HR
          go_wp2
          go_quiet (fail)
          go_wp2
          go_quiet (fail)
          by_cases hc1 : d2 = 1
          · have HN1 := Lib.hid (fun W hI => (HN.out W hI).1 hc1)
            subst hc1
            obtain rfl : m2 = 0 := by omega
            go_wp2_with (go_at_fn g; refine (HQ.out _).mono ?_; rintro e w1 ⟨rfl, hI1⟩)
            have HN2 := Lib.hid (HN1.out _ hI1)
            go_roundw
            case rel => exact ⟨_, _, _, _, _, _, _, _, _, rfl, rfl, HN2⟩
            case measure => simp [slLen]; try omega
          · have HN1 := Lib.hid (fun W hI => (HN.out W hI).2 hc1)
            go_wp2_with (go_at_fn g; refine (HQ.out _).mono ?_; rintro e w1 ⟨rfl, hI1⟩)
            have HN2 := Lib.hid (HN1.out _ hI1)
            go_roundw
            case rel => exact ⟨_, _, _, _, _, _, _, _, _, rfl, rfl, HN2⟩
            case measure => simp [slLen]; try omega
      | cons x l =>
        cases r with
        | nil =>
          obtain rfl : n2 = 0 := HR.out.m2
          obtain ⟨b, o, m, rfl, rfl, hmc, hcm, hat⟩ := head_at (HR.out.t1 _ (HP.out.row1 _ _ HR.out.inv))
          have z1 : ((m : Int) + 1 == 0) = false := by simp; omega
          have hm63 : (m : Int) + 1 ≤ 9223372036854775807 := by unfold maxLen at hcm; omega
          have h01 : (0 : Int) < (m : Int) + 1 := by omega
          have h11 : (1 : Int) ≤ (m : Int) + 1 := by omega
          have hmc1 : (m : Int) + 1 ≤ (d1 : Int) := by omega
          have hlen : T.length < xs.length + ys.length := by have := HR.out.len; simp at this; omega
          have HN := Lib.hid (fun W hI => HR.out.left (w' := W) (sbs_cn x l) hI)
          have HQ := Lib.hid (fun n => HP.out.pay T (some x) none (.pointer (some ⟨b, o, none⟩)) (.pointer none) (wr.drewN n) (HP.out.drew _ _ _ HR.out.inv) trivial hlen (ptr_some (hat.below (blw_drewN (Below.refl _ _) n) hat.lt)) (ptr_none _))
          clear hat HP HR
          go_wp2
          go_quiet (fail)
          by_cases hc1 : d1 = 1
          · have HN1 := Lib.hid (fun W hI => (HN.out W hI).1 hc1)
            subst hc1
            obtain rfl : m = 0 := by omega
            go_wp2_with (go_at_fn g; refine (HQ.out _).mono ?_; rintro e w1 ⟨rfl, hI1⟩)
            have HN2 := Lib.hid (HN1.out _ hI1)
            go_roundw
            case rel => exact ⟨_, _, _, _, _, _, _, _, _, rfl, rfl, HN2⟩
            case measure => simp [slLen]; try omega
          · have HN1 := Lib.hid (fun W hI => (HN.out W hI).2 hc1)
            go_wp2_with (go_at_fn g; refine (HQ.out _).mono ?_; rintro e w1 ⟨rfl, hI1⟩)
            have HN2 := Lib.hid (HN1.out _ hI1)
            go_roundw
            case rel => exact ⟨_, _, _, _, _, _, _, _, _, rfl, rfl, HN2⟩
            case measure => simp [slLen]; try omega
        | cons y r =>
          by_cases hk : x.key < y.key
          · skip
            obtain ⟨b, o, m, rfl, rfl, hmc, hcm, hat⟩ := head_at (HR.out.t1 _ (HP.out.row1 _ _ HR.out.inv))
            have z1 : ((m : Int) + 1 == 0) = false := by simp; omega
            have hm63 : (m : Int) + 1 ≤ 9223372036854775807 := by unfold maxLen at hcm; omega
            have h01 : (0 : Int) < (m : Int) + 1 := by omega
            have h11 : (1 : Int) ≤ (m : Int) + 1 := by omega
            have hmc1 : (m : Int) + 1 ≤ (d1 : Int) := by omega
            obtain ⟨b2, o2, m2, rfl, rfl, hmc2, hcm2, hat2⟩ := head_at (HR.out.t2 _ (HP.out.row2 _ _ HR.out.inv))
            have z2 : ((m2 : Int) + 1 == 0) = false := by simp; omega
            have hm632 : (m2 : Int) + 1 ≤ 9223372036854775807 := by unfold maxLen at hcm2; omega
            have h012 : (0 : Int) < (m2 : Int) + 1 := by omega
            have h112 : (1 : Int) ≤ (m2 : Int) + 1 := by omega
            have hmc21 : (m2 : Int) + 1 ≤ (d2 : Int) := by omega
            have hlen : T.length < xs.length + ys.length := by have := HR.out.len; simp at this; omega
            have HN := Lib.hid (fun W hI => HR.out.left (w' := W) (sbs_lt hk) hI)
            have HQ := Lib.hid (fun n => HP.out.pay T (some x) none (.pointer (some ⟨b, o, none⟩)) (.pointer none) (wr.drewN n) (HP.out.drew _ _ _ HR.out.inv) trivial hlen (ptr_some (hat.below (blw_drewN (Below.refl _ _) n) hat.lt)) (ptr_none _))
            obtain ⟨c0, c1, c2, c3, c4, c5⟩ := hat
            obtain ⟨f0, f1, f2, f3, f4, f5⟩ := hat2
            have e1 : decide (x.key < y.key) = true := by simpa using hk
            clear HP HR hk
            go_wp2
            go_quiet (fail)
            by_cases hc1 : d1 = 1
            · have HN1 := Lib.hid (fun W hI => (HN.out W hI).1 hc1)
              subst hc1
              obtain rfl : m = 0 := by omega
              go_wp2_with (go_at_fn g; refine (HQ.out _).mono ?_; rintro e w1 ⟨rfl, hI1⟩)
              have HN2 := Lib.hid (HN1.out _ hI1)
              go_roundw
              case rel => exact ⟨_, _, _, _, _, _, _, _, _, rfl, rfl, HN2⟩
              case measure => simp [slLen]; try omega
            · have HN1 := Lib.hid (fun W hI => (HN.out W hI).2 hc1)
              go_wp2_with (go_at_fn g; refine (HQ.out _).mono ?_; rintro e w1 ⟨rfl, hI1⟩)
              have HN2 := Lib.hid (HN1.out _ hI1)
              go_roundw
              case rel => exact ⟨_, _, _, _, _, _, _, _, _, rfl, rfl, HN2⟩
              case measure => simp [slLen]; try omega
          · by_cases hk2 : y.key < x.key
            · skip
              obtain ⟨b, o, m, rfl, rfl, hmc, hcm, hat⟩ := head_at (HR.out.t1 _ (HP.out.row1 _ _ HR.out.inv))
              have z1 : ((m : Int) + 1 == 0) = false := by simp; omega
              have hm63 : (m : Int) + 1 ≤ 9223372036854775807 := by unfold maxLen at hcm; omega
              have h01 : (0 : Int) < (m : Int) + 1 := by omega
              have h11 : (1 : Int) ≤ (m : Int) + 1 := by omega
              have hmc1 : (m : Int) + 1 ≤ (d1 : Int) := by omega
              obtain ⟨b2, o2, m2, rfl, rfl, hmc2, hcm2, hat2⟩ := head_at (HR.out.t2 _ (HP.out.row2 _ _ HR.out.inv))
              have z2 : ((m2 : Int) + 1 == 0) = false := by simp; omega
              have hm632 : (m2 : Int) + 1 ≤ 9223372036854775807 := by unfold maxLen at hcm2; omega
              have h012 : (0 : Int) < (m2 : Int) + 1 := by omega
              have h112 : (1 : Int) ≤ (m2 : Int) + 1 := by omega
              have hmc21 : (m2 : Int) + 1 ≤ (d2 : Int) := by omega
              have hlen : T.length < xs.length + ys.length := by have := HR.out.len; simp at this; omega
              have HN := Lib.hid (fun W hI => HR.out.right (w' := W) (sbs_gt hk2) hI)
              have HQ := Lib.hid (fun n => HP.out.pay T none (some y) (.pointer none) (.pointer (some ⟨b2, o2, none⟩)) (wr.drewN n) (HP.out.drew _ _ _ HR.out.inv) trivial hlen (ptr_none _) (ptr_some (hat2.below (blw_drewN (Below.refl _ _) n) hat2.lt)))
              obtain ⟨c0, c1, c2, c3, c4, c5⟩ := hat
              obtain ⟨f0, f1, f2, f3, f4, f5⟩ := hat2
              have e1 : decide (x.key < y.key) = false := by simpa using hk
              have e2 : decide (y.key < x.key) = true := by simpa using hk2
              clear HP HR hk hk2
              go_wp2
              go_quiet (fail)
              go_wp2
              go_quiet (fail)
              by_cases hc1 : d2 = 1
              · have HN1 := Lib.hid (fun W hI => (HN.out W hI).1 hc1)
                subst hc1
                obtain rfl : m2 = 0 := by omega
                go_wp2_with (go_at_fn g; refine (HQ.out _).mono ?_; rintro e w1 ⟨rfl, hI1⟩)
                have HN2 := Lib.hid (HN1.out _ hI1)
                go_roundw
                case rel => exact ⟨_, _, _, _, _, _, _, _, _, rfl, rfl, HN2⟩
                case measure => simp [slLen]; try omega
              · have HN1 := Lib.hid (fun W hI => (HN.out W hI).2 hc1)
                go_wp2_with (go_at_fn g; refine (HQ.out _).mono ?_; rintro e w1 ⟨rfl, hI1⟩)
                have HN2 := Lib.hid (HN1.out _ hI1)
                go_roundw
                case rel => exact ⟨_, _, _, _, _, _, _, _, _, rfl, rfl, HN2⟩
                case measure => simp [slLen]; try omega
            · skip
              obtain ⟨b, o, m, rfl, rfl, hmc, hcm, hat⟩ := head_at (HR.out.t1 _ (HP.out.row1 _ _ HR.out.inv))
              have z1 : ((m : Int) + 1 == 0) = false := by simp; omega
              have hm63 : (m : Int) + 1 ≤ 9223372036854775807 := by unfold maxLen at hcm; omega
              have h01 : (0 : Int) < (m : Int) + 1 := by omega
              have h11 : (1 : Int) ≤ (m : Int) + 1 := by omega
              have hmc1 : (m : Int) + 1 ≤ (d1 : Int) := by omega
              obtain ⟨b2, o2, m2, rfl, rfl, hmc2, hcm2, hat2⟩ := head_at (HR.out.t2 _ (HP.out.row2 _ _ HR.out.inv))
              have z2 : ((m2 : Int) + 1 == 0) = false := by simp; omega
              have hm632 : (m2 : Int) + 1 ≤ 9223372036854775807 := by unfold maxLen at hcm2; omega
              have h012 : (0 : Int) < (m2 : Int) + 1 := by omega
              have h112 : (1 : Int) ≤ (m2 : Int) + 1 := by omega
              have hmc21 : (m2 : Int) + 1 ≤ (d2 : Int) := by omega
              have hlen : T.length < xs.length + ys.length := by have := HR.out.len; simp at this; omega
              have HN := Lib.hid (fun W hI => HR.out.both (w' := W) (sbs_eq hk hk2) hI)
              have HQ := Lib.hid (fun n => HP.out.pay T (some x) (some y) (.pointer (some ⟨b, o, none⟩)) (.pointer (some ⟨b2, o2, none⟩)) (wr.drewN n) (HP.out.drew _ _ _ HR.out.inv) trivial hlen (ptr_some (hat.below (blw_drewN (Below.refl _ _) n) hat.lt)) (ptr_some (hat2.below (blw_drewN (Below.refl _ _) n) hat2.lt)))
              have HD := Lib.hid HP.out.drew
              obtain ⟨c0, c1, c2, c3, c4, c5⟩ := hat
              obtain ⟨f0, f1, f2, f3, f4, f5⟩ := hat2
              have e1 : decide (x.key < y.key) = false := by simpa using hk
              have e2 : decide (y.key < x.key) = false := by simpa using hk2
              clear HP HR hk hk2
              go_wp2
              go_quiet (fail)
              go_wp2
              go_quiet (fail)
              go_wp2
              go_region_held3 (fun w' => True) (trivial) ((go_at_fn g; refine (HQ.out _).mono ?_; rintro e w1 ⟨rfl, hI1⟩))
              have HN2 := Lib.hid (fun n => HN.out _ (HD.out _ _ n hI1))
              by_cases hc1 : d1 = 1 <;> by_cases hc2 : d2 = 1
              · have HN3 := Lib.hid (fun n => (HN2.out n).1 hc1 hc2)
                subst hc1 hc2
                obtain rfl : m = 0 := by omega
                obtain rfl : m2 = 0 := by omega
                clear HN HN2 HD HQ hI1
                go_wp2
                go_quiet (fail)
                go_roundw
                case rel => first | exact ⟨_, _, _, _, _, _, _, _, _, rfl, rfl, Lib.hid (HN3.out _)⟩ | exact ⟨_, _, _, _, _, _, _, _, _, _, _, _, _, _, _, _, _, _, _, _, _, _, _, _, _, _, _, _, _, _, _, _, _, _, _, _, _, _, _, _, _, _, _, _, _, _, _, _, _, _, _, _, _, _, _, _, _, _, _, _, _, _, _, _, _, _, _, _, ⟨_, _, _, _, _, _, _, _, _, rfl, rfl, Lib.hid (HN3.out _)⟩, rfl⟩
                case measure => simp [slLen]; try omega
              · have HN3 := Lib.hid (fun n => (HN2.out n).2.1 hc1 hc2)
                subst hc1
                obtain rfl : m = 0 := by omega
                clear HN HN2 HD HQ hI1
                go_wp2
                go_quiet (fail)
                go_roundw
                case rel => first | exact ⟨_, _, _, _, _, _, _, _, _, rfl, rfl, Lib.hid (HN3.out _)⟩ | exact ⟨_, _, _, _, _, _, _, _, _, _, _, _, _, _, _, _, _, _, _, _, _, _, _, _, _, _, _, _, _, _, _, _, _, _, _, _, _, _, _, _, _, _, _, _, _, _, _, _, _, _, _, _, _, _, _, _, _, _, _, _, _, _, _, _, _, _, _, _, ⟨_, _, _, _, _, _, _, _, _, rfl, rfl, Lib.hid (HN3.out _)⟩, rfl⟩
                case measure => simp [slLen]; try omega
              · have HN3 := Lib.hid (fun n => (HN2.out n).2.2.1 hc1 hc2)
                subst hc2
                obtain rfl : m2 = 0 := by omega
                clear HN HN2 HD HQ hI1
                go_wp2
                go_quiet (fail)
                go_roundw
                case rel => first | exact ⟨_, _, _, _, _, _, _, _, _, rfl, rfl, Lib.hid (HN3.out _)⟩ | exact ⟨_, _, _, _, _, _, _, _, _, _, _, _, _, _, _, _, _, _, _, _, _, _, _, _, _, _, _, _, _, _, _, _, _, _, _, _, _, _, _, _, _, _, _, _, _, _, _, _, _, _, _, _, _, _, _, _, _, _, _, _, _, _, _, _, _, _, _, _, ⟨_, _, _, _, _, _, _, _, _, rfl, rfl, Lib.hid (HN3.out _)⟩, rfl⟩
                case measure => simp [slLen]; try omega
              · have HN3 := Lib.hid (fun n => (HN2.out n).2.2.2 hc1 hc2)
                clear HN HN2 HD HQ hI1
                go_wp2
                go_quiet (fail)
                go_roundw
                case rel => first | exact ⟨_, _, _, _, _, _, _, _, _, rfl, rfl, Lib.hid (HN3.out _)⟩ | exact ⟨_, _, _, _, _, _, _, _, _, _, _, _, _, _, _, _, _, _, _, _, _, _, _, _, _, _, _, _, _, _, _, _, _, _, _, _, _, _, _, _, _, _, _, _, _, _, _, _, _, _, _, _, _, _, _, _, _, _, _, _, _, _, _, _, _, _, _, _, ⟨_, _, _, _, _, _, _, _, _, rfl, rfl, Lib.hid (HN3.out _)⟩, rfl⟩
                case measure => simp [slLen]; try omega
  subst e1 e2
  exact hgo _ _ _ _ _ _ _ HI
end Go.Proofs.Ythcakinllcffoaa

/- C3: what the closures do to the list that they put to -/
namespace Go.Proofs.Ythcakinllcffoaa
open Go.RowKit
set_option linter.unusedVariables false

/-- The list so far lies in the cell at B0; else nothing that was there at W1 has turned. -/
structure Acc (W1 : World) (B0 : Nat) (v : Value) (ls : List Chg) (W : World) : Prop where
  cell : W.cell? ⟨B0, 0, none⟩ = some v
  free : W.frozen? ⟨B0, 0, none⟩ = false
  own : W.ownsRow W1.heap.size 49 6 v ls.length (fl chC ls)
  grown : W1.grownBy W (some B0)
  lt : B0 < W1.heap.size
theorem grown_drewN {w w' : World} {r : Option Nat} (h : w.grownBy w' r) (n : Nat) : w.grownBy (w'.drewN n) r := by
  obtain ⟨h1, h2, h3, h4, h5⟩ := h
  exact ⟨h1, h2, h3, h4, h5⟩
theorem Acc.drewN {W1 : World} {B0 : Nat} {v : Value} {ls : List Chg} {W : World} (h : Acc W1 B0 v ls W) (n : Nat) : Acc W1 B0 v ls (W.drewN n) :=
  ⟨h.cell, h.free, owns_below h.own (blw_drewN (Below.refl _ _) n), grown_drewN h.grown n, h.lt⟩
theorem Acc.size {W1 : World} {B0 : Nat} {v : Value} {ls : List Chg} {W : World} (h : Acc W1 B0 v ls W) : W1.heap.size ≤ W.heap.size := h.grown.size
/-- A block that was there, but for the cell's, is as it was. -/
theorem Acc.block {W1 : World} {B0 : Nat} {v : Value} {ls : List Chg} {W : World} (h : Acc W1 B0 v ls W) {j : Nat} (hj : j < W1.heap.size) (hn : j ≠ B0) : W.heap[j]? = W1.heap[j]? := by
  exact h.grown.block j hj (by simpa using hn)
theorem Acc.row {W1 : World} {B0 : Nat} {v u : Value} {ls xs : List Chg} {W : World} (h : Acc W1 B0 v ls W) (hr : Crow W1 u xs) (hn : ∀ b o n c, u = .slice (some ⟨b, o, none⟩) n c → b ≠ B0 ∨ xs = []) : Crow W u xs := by
  rcases hr with hr | ⟨b, off, cap, rfl, h0, h1, h2, h3⟩
  · exact .inl hr
  · refine .inr ⟨b, off, cap, rfl, h0, h1, h2, fun j u hu => ?_⟩
    have hc := h3 j u hu
    refine h.grown.cell (a := ⟨b, off + j, none⟩) hc ?_
    rcases hn _ _ _ _ rfl with e | e
    · simpa using e
    · subst e; simp at h0
theorem Acc.ptr {W1 : World} {B0 : Nat} {v : Value} {ls : List Chg} {W w2 w3 : World} (h : Acc W1 B0 v ls W) (hb : Below W.heap.size W w2) (hg : w2.grownBy w3 v.ownBlock) :
    w3.cell? ⟨B0, 0, none⟩ = some v ∧ w3.frozen? ⟨B0, 0, none⟩ = false := by
  have hB : B0 < W.heap.size := Nat.lt_of_lt_of_le h.lt h.size
  have hne : some B0 ≠ v.ownBlock := fun e => by
    have := own_base h.own e.symm
    have := h.lt
    omega
  refine ⟨hg.cell ((hb.cell (p := ⟨B0, 0, none⟩) hB).trans h.cell) hne, ?_⟩
  rw [World.frozen?_of_block (w := w2) (hg.block B0 (Nat.lt_of_lt_of_le hB hb.size) hne)]
  exact (hb.frozen (p := ⟨B0, 0, none⟩) hB).trans h.free
theorem Acc.push {W1 : World} {B0 : Nat} {v v3 : Value} {ls : List Chg} {x : Chg} {W w2 w3 : World} (h : Acc W1 B0 v ls W) (hb : Below W.heap.size W w2) (hg : w2.grownBy w3 v.ownBlock)
    (hown : w3.ownsRow W1.heap.size 49 6 v3 (ls.length + 1) (fl chC ls ++ cc x)) : Acc W1 B0 v3 (ls ++ [x]) (w3.setCell ⟨B0, 0, none⟩ v3) := by
  obtain ⟨hc, hf⟩ := h.ptr hb hg
  have hB : B0 < W.heap.size := Nat.lt_of_lt_of_le h.lt h.size
  refine ⟨World.cell?_setCell_same _ _ _ hc, (World.frozen?_setCell _ _ _ _).trans hf, ownsRow_setCell_below ?_ h.lt _, ?_, h.lt⟩
  · rw [fl_app, fl_one, List.length_append]; exact hown
  · refine ⟨hg.os.trans (hb.os.trans h.grown.os), hg.tape.trans (hb.tape.trans h.grown.tape), hg.output.trans (hb.output.trans h.grown.output), ?_, fun k hk hn => ?_⟩
    · have := h.size; have := hb.size; have := hg.size; simp; omega
    · have hk2 : k < W.heap.size := Nat.lt_of_lt_of_le hk h.size
      rw [Below.heap_setCell _ _ _ _ (by show k ≠ B0; simpa using hn), hg.block k (Nat.lt_of_lt_of_le hk2 hb.size) (fun e => by have := own_base h.own e.symm; omega), hb.block k hk2]
      exact h.grown.block k hk hn
theorem both_alloc {W : World} {B0 b o : Nat} {v : Value} {x : Chg} (hc : W.cell? ⟨B0, 0, none⟩ = some v) (hat : CAt b o x W) (ob : Obj) : (W.alloc ob).drew.cell? ⟨B0, 0, none⟩ = some v ∧ CAt b o x (W.alloc ob).drew :=
  have hb : Below W.heap.size W (W.alloc ob).drew := ((Below.refl _ _).alloc (Nat.le_refl _) ob).drew
  ⟨(hb.cell (p := ⟨B0, 0, none⟩) (World.block_lt_of_cell? W _ hc)).trans hc, hat.below hb hat.lt⟩
theorem below_ad (W : World) (ob : Obj) : Below W.heap.size W (W.alloc ob).drew := ((Below.refl _ _).alloc (Nat.le_refl _) ob).drew
/-- A key that is gone. -/
@[reducible] def goneC (key : Int) : Chg := ⟨key, true, 0, 0, 0, ⟨#[]⟩⟩

set_option maxRecDepth 100000 in
set_option maxHeartbeats 1000000 in
theorem compose_y (W1 : World) (B0 : Nat) (v p : Value) (ls : List Chg) (W : World) (h : Acc W1 B0 v ls W) (b1 o1 : Nat) (y : Chg) (haty : CAt b1 o1 y W)  (hl : ls.length ≤ 1000000000000) :
    Calls Try.prog 58 #[p, .pointer (some ⟨b1, o1, none⟩), .pointer (some ⟨B0, 0, none⟩)] W fun e W' => e = .returned (.tuple #[]) ∧ ∃ v', Acc W1 B0 v' (ls ++ [y]) W' := by
  obtain ⟨i0, hi, hz0, hz1, hz2⟩ := info_ch
  have HA := Lib.hid h
  have hc := h.cell
  obtain ⟨y0, y1, y2, y3, y4, y5⟩ := id haty
  have hsz := h.size
  have hc2 : (W.alloc (.cells #[.int .i64 y.key, .bool y.g, .int .u8 y.k, .int .i64 y.n, .int .u64 y.f, .string y.s] 49)).drew.cell? ⟨B0, 0, none⟩ = some v := (both_alloc hc haty _).1
  clear h haty
  go_enter Try.func58, Try.ntmps58
  go_wp2
  go_region_law
    ((refine step_append_lies _ (by rfl) (.tmp 8) (.tmp 12) 23 (by rfl) W1.heap.size 49 i0 (cv noChg) 6 56 Try.underlying23 hi hz0 hz1 hz2 (by rfl) (by decide) v ls.length (fl chC ls) (by rfl) (owns_below HA.out.own (below_ad W _)) ⟨W.heap.size, 0, none⟩ 1 1 (cc y) (by rfl) (by rfl) (World.news_of_block (heap_alloc_new _ _)) (cc_one y) (by decide) (by unfold maxLen; omega) (by omega) (by simp; omega) _ rfl ?_; intro g cap w3 hown3 hgrow3 hat3 hlt3; obtain ⟨hwc, hwf⟩ := HA.out.ptr (below_ad W _) hgrow3))
  all_goals (go_end0; exact ⟨rfl, _, HA.out.push (below_ad W _) hgrow3 hown3⟩)

set_option maxRecDepth 100000 in
set_option maxHeartbeats 1000000 in
theorem compose_x (W1 : World) (B0 : Nat) (v : Value) (ls : List Chg) (W : World) (h : Acc W1 B0 v ls W) (bx ox : Nat) (x : Chg) (hatx : CAt bx ox x W)  (hl : ls.length ≤ 1000000000000) :
    Calls Try.prog 58 #[.pointer (some ⟨bx, ox, none⟩), .pointer none, .pointer (some ⟨B0, 0, none⟩)] W fun e W' => e = .returned (.tuple #[]) ∧ ∃ v', Acc W1 B0 v' (ls ++ [x]) W' := by
  obtain ⟨i0, hi, hz0, hz1, hz2⟩ := info_ch
  have HA := Lib.hid h
  have hc := h.cell
  obtain ⟨x0, x1, x2, x3, x4, x5⟩ := id hatx
  have hsz := h.size
  have hc2 : (W.alloc (.cells #[.int .i64 x.key, .bool x.g, .int .u8 x.k, .int .i64 x.n, .int .u64 x.f, .string x.s] 49)).drew.cell? ⟨B0, 0, none⟩ = some v := (both_alloc hc hatx _).1
  clear h hatx
  go_enter Try.func58, Try.ntmps58
  go_wp2
  go_region_law
    ((refine step_append_lies _ (by rfl) (.tmp 8) (.tmp 12) 23 (by rfl) W1.heap.size 49 i0 (cv noChg) 6 56 Try.underlying23 hi hz0 hz1 hz2 (by rfl) (by decide) v ls.length (fl chC ls) (by rfl) (owns_below HA.out.own (below_ad W _)) ⟨W.heap.size, 0, none⟩ 1 1 (cc x) (by rfl) (by rfl) (World.news_of_block (heap_alloc_new _ _)) (cc_one x) (by decide) (by unfold maxLen; omega) (by omega) (by simp; omega) _ rfl ?_; intro g cap w3 hown3 hgrow3 hat3 hlt3; obtain ⟨hwc, hwf⟩ := HA.out.ptr (below_ad W _) hgrow3))
  all_goals (go_end0; exact ⟨rfl, _, HA.out.push (below_ad W _) hgrow3 hown3⟩)

set_option maxRecDepth 100000 in
set_option maxHeartbeats 1000000 in
theorem diff_x (W1 : World) (B0 : Nat) (v : Value) (ls : List Chg) (W : World) (h : Acc W1 B0 v ls W) (bx ox : Nat) (x : Chg) (hatx : CAt bx ox x W)  (hl : ls.length ≤ 1000000000000) :
    Calls Try.prog 59 #[.pointer (some ⟨bx, ox, none⟩), .pointer none, .pointer (some ⟨B0, 0, none⟩)] W fun e W' => e = .returned (.tuple #[]) ∧ ∃ v', Acc W1 B0 v' (ls ++ [(goneC x.key)]) W' := by
  obtain ⟨i0, hi, hz0, hz1, hz2⟩ := info_ch
  have HA := Lib.hid h
  have hc := h.cell
  obtain ⟨x0, x1, x2, x3, x4, x5⟩ := id hatx
  have hsz := h.size
  have hc2 : (W.alloc (.cells #[.int .i64 x.key, .bool true, .int .u8 0, .int .i64 0, .int .u64 0, .string ⟨#[]⟩] 49)).drew.cell? ⟨B0, 0, none⟩ = some v := (both_alloc hc hatx _).1
  clear h hatx
  go_enter Try.func59, Try.ntmps59
  go_wp2
  go_region_law
    ((refine step_append_lies _ (by rfl) (.tmp 8) (.tmp 14) 23 (by rfl) W1.heap.size 49 i0 (cv noChg) 6 56 Try.underlying23 hi hz0 hz1 hz2 (by rfl) (by decide) v ls.length (fl chC ls) (by rfl) (owns_below HA.out.own (below_ad W _)) ⟨W.heap.size, 0, none⟩ 1 1 (cc (goneC x.key)) (by rfl) (by rfl) (World.news_of_block (heap_alloc_new _ _)) (cc_one (goneC x.key)) (by decide) (by unfold maxLen; omega) (by omega) (by simp; omega) _ rfl ?_; intro g cap w3 hown3 hgrow3 hat3 hlt3; obtain ⟨hwc, hwf⟩ := HA.out.ptr (below_ad W _) hgrow3))
  all_goals (go_end0; exact ⟨rfl, _, HA.out.push (below_ad W _) hgrow3 hown3⟩)

set_option maxRecDepth 100000 in
set_option maxHeartbeats 1000000 in
theorem diff_y (W1 : World) (B0 : Nat) (v : Value) (ls : List Chg) (W : World) (h : Acc W1 B0 v ls W) (b1 o1 : Nat) (y : Chg) (haty : CAt b1 o1 y W)  (hl : ls.length ≤ 1000000000000) :
    Calls Try.prog 59 #[.pointer none, .pointer (some ⟨b1, o1, none⟩), .pointer (some ⟨B0, 0, none⟩)] W fun e W' => e = .returned (.tuple #[]) ∧ ∃ v', Acc W1 B0 v' (ls ++ [y]) W' := by
  obtain ⟨i0, hi, hz0, hz1, hz2⟩ := info_ch
  have HA := Lib.hid h
  have hc := h.cell
  obtain ⟨y0, y1, y2, y3, y4, y5⟩ := id haty
  have hsz := h.size
  have hc2x : (W.alloc (.cells #[.int .i64 y.key, .bool y.g, .int .u8 y.k, .int .i64 y.n, .int .u64 y.f, .string y.s] 49)).drew.cell? ⟨B0, 0, none⟩ = some v := (both_alloc hc haty _).1
  have HATy := Lib.hid haty
  clear h haty
  go_enter Try.func59, Try.ntmps59
  go_wp2
  go_quiet (fail)
  have HA2 := Lib.hid (HA.out.drewN nq)
  have HY2 := Lib.hid (HATy.out.below (blw_drewN (Below.refl _ _) nq) HATy.out.lt)
  clear HA HATy hc y0 y1 y2 y3 y4 y5 hsz hc2x
  generalize W.drewN nq = W2 at *
  have hc := HA2.out.cell
  obtain ⟨y0, y1, y2, y3, y4, y5⟩ := id HY2.out
  have hsz2 := HA2.out.size
  have hc2 : (W2.alloc (.cells #[.int .i64 y.key, .bool y.g, .int .u8 y.k, .int .i64 y.n, .int .u64 y.f, .string y.s] 49)).drew.cell? ⟨B0, 0, none⟩ = some v := (both_alloc hc HY2.out _).1
  go_wp2
  go_region_law
    ((refine step_append_lies _ (by rfl) (.tmp 28) (.tmp 32) 23 (by rfl) W1.heap.size 49 i0 (cv noChg) 6 56 Try.underlying23 hi hz0 hz1 hz2 (by rfl) (by decide) v ls.length (fl chC ls) (by rfl) (owns_below HA2.out.own (below_ad W2 _)) ⟨W2.heap.size, 0, none⟩ 1 1 (cc y) (by rfl) (by rfl) (World.news_of_block (heap_alloc_new _ _)) (cc_one y) (by decide) (by unfold maxLen; omega) (by omega) (by simp; omega) _ rfl ?_; intro g cap w3 hown3 hgrow3 hat3 hlt3; obtain ⟨hwc, hwf⟩ := HA2.out.ptr (below_ad W2 _) hgrow3))
  all_goals (go_end0; exact ⟨rfl, _, HA2.out.push (below_ad W2 _) hgrow3 hown3⟩)

set_option maxRecDepth 100000 in
set_option maxHeartbeats 1000000 in
theorem diff_xy (W1 : World) (B0 : Nat) (v : Value) (ls : List Chg) (W : World) (h : Acc W1 B0 v ls W) (bx ox : Nat) (x : Chg) (hatx : CAt bx ox x W) (b1 o1 : Nat) (y : Chg) (haty : CAt b1 o1 y W) (hn : ¬ x = y) (hl : ls.length ≤ 1000000000000) :
    Calls Try.prog 59 #[.pointer (some ⟨bx, ox, none⟩), .pointer (some ⟨b1, o1, none⟩), .pointer (some ⟨B0, 0, none⟩)] W fun e W' => e = .returned (.tuple #[]) ∧ ∃ v', Acc W1 B0 v' (ls ++ [y]) W' := by
  obtain ⟨i0, hi, hz0, hz1, hz2⟩ := info_ch
  have HA := Lib.hid h
  have hc := h.cell
  obtain ⟨x0, x1, x2, x3, x4, x5⟩ := id hatx
  obtain ⟨y0, y1, y2, y3, y4, y5⟩ := id haty
  have hsz := h.size
  have hc2x : (W.alloc (.cells #[.int .i64 y.key, .bool y.g, .int .u8 y.k, .int .i64 y.n, .int .u64 y.f, .string y.s] 49)).drew.cell? ⟨B0, 0, none⟩ = some v := (both_alloc hc hatx _).1
  have HATy := Lib.hid haty
  have hq := fun w => chg_neq x y w
  rw [show ceq x y = false by rw [ceq_dec]; simpa using hn] at hq
  clear h hatx haty
  go_enter Try.func59, Try.ntmps59
  go_wp2
  go_quiet (fail)
  have HA2 := Lib.hid (HA.out.drewN nq)
  have HY2 := Lib.hid (HATy.out.below (blw_drewN (Below.refl _ _) nq) HATy.out.lt)
  clear HA HATy hc y0 y1 y2 y3 y4 y5 hsz hc2x x0 x1 x2 x3 x4 x5 hq
  generalize W.drewN nq = W2 at *
  have hc := HA2.out.cell
  obtain ⟨y0, y1, y2, y3, y4, y5⟩ := id HY2.out
  have hsz2 := HA2.out.size
  have hc2 : (W2.alloc (.cells #[.int .i64 y.key, .bool y.g, .int .u8 y.k, .int .i64 y.n, .int .u64 y.f, .string y.s] 49)).drew.cell? ⟨B0, 0, none⟩ = some v := (both_alloc hc HY2.out _).1
  go_wp2
  go_region_law
    ((refine step_append_lies _ (by rfl) (.tmp 28) (.tmp 32) 23 (by rfl) W1.heap.size 49 i0 (cv noChg) 6 56 Try.underlying23 hi hz0 hz1 hz2 (by rfl) (by decide) v ls.length (fl chC ls) (by rfl) (owns_below HA2.out.own (below_ad W2 _)) ⟨W2.heap.size, 0, none⟩ 1 1 (cc y) (by rfl) (by rfl) (World.news_of_block (heap_alloc_new _ _)) (cc_one y) (by decide) (by unfold maxLen; omega) (by omega) (by simp; omega) _ rfl ?_; intro g cap w3 hown3 hgrow3 hat3 hlt3; obtain ⟨hwc, hwf⟩ := HA2.out.ptr (below_ad W2 _) hgrow3))
  all_goals (go_end0; exact ⟨rfl, _, HA2.out.push (below_ad W2 _) hgrow3 hown3⟩)

set_option maxRecDepth 100000 in
set_option maxHeartbeats 1000000 in
theorem diff_same (W1 : World) (B0 : Nat) (v : Value) (ls : List Chg) (W : World) (h : Acc W1 B0 v ls W) (bx ox : Nat) (x : Chg) (hatx : CAt bx ox x W) (b1 o1 : Nat) (y : Chg) (haty : CAt b1 o1 y W) (hn : x = y) (hl : ls.length ≤ 1000000000000) :
    Calls Try.prog 59 #[.pointer (some ⟨bx, ox, none⟩), .pointer (some ⟨b1, o1, none⟩), .pointer (some ⟨B0, 0, none⟩)] W fun e W' => e = .returned (.tuple #[]) ∧ ∃ v', Acc W1 B0 v' ls W' := by
  obtain ⟨i0, hi, hz0, hz1, hz2⟩ := info_ch
  have HA := Lib.hid h
  have hc := h.cell
  obtain ⟨x0, x1, x2, x3, x4, x5⟩ := id hatx
  obtain ⟨y0, y1, y2, y3, y4, y5⟩ := id haty
  have hsz := h.size
  have hq := fun w => chg_neq x y w
  rw [show ceq x y = true by rw [ceq_dec]; simpa using hn] at hq
  clear hn
  clear h hatx haty
  go_enter Try.func59, Try.ntmps59
  go_wp2
  go_quiet (fail)
  go_wp2
  go_end0
  exact ⟨rfl, _, HA.out.drewN nq⟩
end Go.Proofs.Ythcakinllcffoaa

/- C4: Compose, Less; what Diff does with two rows -/
namespace Go.Proofs.Ythcakinllcffoaa
open Go.RowKit Go.Shelf
set_option linter.unusedVariables false

def putC : Option Chg × Option Chg → List Chg
  | (_, some y) => [y]
  | (some x, none) => [x]
  | (none, none) => []
def putD : Option Chg × Option Chg → List Chg
  | (some x, none) => [goneC x.key]
  | (none, some y) => [y]
  | (some x, some y) => if x = y then [] else [y]
  | (none, none) => []
theorem put_len (f : Option Chg × Option Chg → List Chg) (hf : ∀ p, (f p).length ≤ 1) : ∀ T : Told, (T.flatMap f).length ≤ T.length
  | [] => by simp
  | p :: T => by have := put_len f hf T; have := hf p; simp only [List.flatMap_cons, List.length_append, List.length_cons]; omega
theorem putC_one (p : Option Chg × Option Chg) : (putC p).length ≤ 1 := by rcases p with ⟨_ | _, _ | _⟩ <;> simp [putC]
theorem putD_one (p : Option Chg × Option Chg) : (putD p).length ≤ 1 := by
  rcases p with ⟨_ | _, _ | _⟩ <;> simp [putD]
  split <;> simp
theorem told_one (f : Option Chg × Option Chg → List Chg) (T : Told) (p : Option Chg × Option Chg) : (T ++ [p]).flatMap f = T.flatMap f ++ f p := by simp
theorem sbs_len : ∀ (n : Nat) (l r : List Chg), l.length + r.length ≤ n → (sbs l r).length ≤ n
  | n, [], [], _ => by rw [sbs_nn]; simp
  | 0, x :: l, r, h => by simp at h
  | 0, [], y :: r, h => by simp at h
  | n + 1, x :: l, [], h => by rw [sbs_cn]; have := sbs_len n l [] (by simp at h ⊢; omega); simp; omega
  | n + 1, [], y :: r, h => by rw [sbs_nc]; have := sbs_len n [] r (by simp at h ⊢; omega); simp; omega
  | n + 1, x :: l, y :: r, h => by
    by_cases h1 : x.key < y.key
    · rw [sbs_lt h1]; have := sbs_len n l (y :: r) (by simp at h ⊢; omega); simp; omega
    · by_cases h2 : y.key < x.key
      · rw [sbs_gt h2]; have := sbs_len n (x :: l) r (by simp at h ⊢; omega); simp; omega
      · rw [sbs_eq h1 h2]; have := sbs_len n l r (by simp at h ⊢; omega); simp; omega

/-- A row that does not lie in that block. -/
def OffC (B0 : Nat) (v : Value) (xs : List Chg) : Prop := ∀ b o n c, v = .slice (some ⟨b, o, none⟩) n c → b ≠ B0 ∨ xs = []
theorem off_old {w : World} {v : Value} {xs : List Chg} (h : Crow w v xs) {B0 : Nat} (hB : w.heap.size ≤ B0) : OffC B0 v xs := by
  intro b o n c e
  subst e
  by_cases h0 : xs = []
  · exact .inr h0
  · obtain ⟨b', o', e, -, -, -, hb, -⟩ := Crow.opn h (List.length_pos_iff.2 h0)
    injection e with e
    injection e with e1 e2
    subst e1
    exact .inl (by omega)
theorem off_own {w : World} {base : Nat} {e : TypeId} {size : Nat} {v : Value} {n : Nat} {cs : List Value} (h : w.ownsRow base e size v n cs) {B0 : Nat} (hB : B0 < base) (xs : List Chg) : OffC B0 v xs := by
  intro b o n c hv
  subst hv
  have := own_base h (k := b) rfl
  exact .inl (by omega)
/-- A list of changes that the call made. -/
@[reducible] def Own6 (w w' : World) (u : Value) (ls : List Chg) : Prop := w'.ownsRow w.heap.size 49 6 u ls.length (fl chC ls)
theorem own6_row {w w' : World} {u : Value} {ls : List Chg} (h : Own6 w w' u ls) : Crow w' u ls := (Row.of_owns h).1

theorem acc_start {W1 : World} {B0 : Nat} (hc : W1.cell? ⟨B0, 0, none⟩ = some (.slice none 0 0)) (hf : W1.frozen? ⟨B0, 0, none⟩ = false) : Acc W1 B0 (.slice none 0 0) [] W1 :=
  ⟨hc, hf, World.ownsRow_nil _ _ _ _, ⟨rfl, rfl, rfl, Nat.le_refl _, fun _ _ _ => rfl⟩, World.block_lt_of_cell? _ _ hc⟩

theorem pays_compose {W1 : World} {B0 : Nat} {v1 v2 : Value} {xs ys : List Chg} (h1 : Crow W1 v1 xs) (h2 : Crow W1 v2 ys) (n1 : OffC B0 v1 xs) (n2 : OffC B0 v2 ys) (hl : xs.length + ys.length ≤ 1000000000000) :
    Pays 58 #[.pointer (some ⟨B0, 0, none⟩)] (fun T W => ∃ v, Acc W1 B0 v (T.flatMap putC) W) v1 v2 xs ys := by
  refine ⟨enters_of Try.func58 (by kernel_rfl) rfl, fun T W ⟨v, h⟩ => h.row h1 n1, fun T W ⟨v, h⟩ => h.row h2 n2, fun T W n ⟨v, h⟩ => ⟨v, h.drewN n⟩, ?_⟩
  intro T x y p q W ⟨v, h⟩ ho hlt hp hq
  have hlen := put_len putC putC_one T
  rw [told_one]
  cases y with
  | some y =>
    obtain ⟨b, o, rfl, hat⟩ := hq
    exact compose_y W1 B0 v p _ W h b o y hat (by omega)
  | none =>
    obtain rfl : q = .pointer none := hq
    cases x with
    | none => exact absurd ho (by simp [One])
    | some x =>
      obtain ⟨b, o, rfl, hat⟩ := hp
      exact compose_x W1 B0 v _ W h b o x hat (by omega)
theorem pays_diff {W1 : World} {B0 : Nat} {v1 v2 : Value} {xs ys : List Chg} (h1 : Crow W1 v1 xs) (h2 : Crow W1 v2 ys) (n1 : OffC B0 v1 xs) (n2 : OffC B0 v2 ys) (hl : xs.length + ys.length ≤ 1000000000000) :
    Pays 59 #[.pointer (some ⟨B0, 0, none⟩)] (fun T W => ∃ v, Acc W1 B0 v (T.flatMap putD) W) v1 v2 xs ys := by
  refine ⟨enters_of Try.func59 (by kernel_rfl) rfl, fun T W ⟨v, h⟩ => h.row h1 n1, fun T W ⟨v, h⟩ => h.row h2 n2, fun T W n ⟨v, h⟩ => ⟨v, h.drewN n⟩, ?_⟩
  intro T x y p q W ⟨v, h⟩ ho hlt hp hq
  have hlen := put_len putD putD_one T
  rw [told_one]
  cases y with
  | some y =>
    obtain ⟨b, o, rfl, hat⟩ := hq
    cases x with
    | none =>
      obtain rfl : p = .pointer none := hp
      exact diff_y W1 B0 v _ W h b o y hat (by omega)
    | some x =>
      obtain ⟨b2, o2, rfl, hat2⟩ := hp
      by_cases hxy : x = y
      · rw [show putD (some x, some y) = [] by simp [putD, hxy], List.append_nil]
        exact diff_same W1 B0 v _ W h b2 o2 x hat2 b o y hat hxy (by omega)
      · rw [show putD (some x, some y) = [y] by simp [putD, hxy]]
        exact diff_xy W1 B0 v _ W h b2 o2 x hat2 b o y hat hxy (by omega)
  | none =>
    obtain rfl : q = .pointer none := hq
    cases x with
    | none => exact absurd ho (by simp [One])
    | some x =>
      obtain ⟨b, o, rfl, hat⟩ := hp
      exact diff_x W1 B0 v _ W h b o x hat (by omega)

def comp (xs ys : List Chg) : List Chg := (sbs xs ys).flatMap putC
def dif (xs ys : List Chg) : List Chg := (sbs xs ys).flatMap putD
theorem comp_len (xs ys : List Chg) : (comp xs ys).length ≤ xs.length + ys.length := Nat.le_trans (put_len putC putC_one _) (sbs_len _ _ _ (Nat.le_refl _))
theorem dif_len (xs ys : List Chg) : (dif xs ys).length ≤ xs.length + ys.length := Nat.le_trans (put_len putD putD_one _) (sbs_len _ _ _ (Nat.le_refl _))

/-- The cell of its own, in which a call has its list. -/
theorem nilcell_new (w : World) (t : TypeId) : (w.alloc (.cells #[.slice none 0 0] t)).cell? ⟨w.heap.size, 0, none⟩ = some (.slice none 0 0) := by
  rw [cell_of_row _ w.heap.size _ _ t (0, 0) (heap_alloc_new w _)]; rfl
theorem frozen_new (w : World) (t : TypeId) : (w.alloc (.cells #[.slice none 0 0] t)).frozen? ⟨w.heap.size, 0, none⟩ = false := by
  unfold World.frozen?
  rw [show (w.alloc (.cells #[.slice none 0 0] t)).heap[w.heap.size]? = _ from heap_alloc_new w _]
  rfl
theorem acc_end {w W1 w' : World} {v : Value} {ls : List Chg} (h : Acc W1 w.heap.size v ls w') (hb : Below w.heap.size w W1) : Own6 w w' v ls ∧ Below w.heap.size w w' :=
  ⟨owns_mono h.own hb.size, ⟨h.grown.os.trans hb.os, h.grown.tape.trans hb.tape, h.grown.output.trans hb.output, Nat.le_trans hb.size h.grown.size, fun k hk => (h.grown.block k (Nat.lt_of_lt_of_le hk hb.size) (by simp; omega)).trans (hb.block k hk)⟩⟩

set_option maxRecDepth 100000 in
theorem compose_any (v1 v2 : Value) (xs ys : List Chg) (w : World) (h1 : Crow w v1 xs) (h2 : Crow w v2 ys) (hl : xs.length + ys.length ≤ 1000000000000) :
    Calls Try.prog 31 #[v1, v2] w fun e w' => ∃ u, e = .returned u ∧ Own6 w w' u (comp xs ys) ∧ Below w.heap.size w w' := by
  have hb : Below w.heap.size w (w.alloc (.cells #[.slice none 0 0] 23)) := (Below.refl _ _).alloc (Nat.le_refl _) _
  have HS := Lib.hid (side_any _ _ v1 v2 xs ys _ (pays_compose (h1.below hb (Nat.le_refl _)) (h2.below hb (Nat.le_refl _)) (off_old h1 (Nat.le_refl _)) (off_old h2 (Nat.le_refl _)) hl) _ ⟨_, acc_start (nilcell_new w _) (frozen_new w _)⟩)
  have HB := Lib.hid hb
  clear h1 h2 hb
  go_enter Try.func31, Try.ntmps31
  go_wp2_with (go_at_call 57; refine HS.out.mono ?_; rintro e w1 ⟨rfl, v, hA⟩; have hc := hA.cell)
  go_ret
  exact ⟨_, rfl, acc_end hA HB.out⟩
end Go.Proofs.Ythcakinllcffoaa

/- C5: a set as a patch, a patch as a set; Diff, Apply, Invert -/
namespace Go.Proofs.Ythcakinllcffoaa
open Go.RowKit
set_option linter.unusedVariables false

theorem crow_new0 (w : World) (a : Chg) (t : TypeId) : Crow (w.alloc (.cells (cca a) t)) (.slice (some ⟨w.heap.size, 0, none⟩) 1 1) [a] := crow_one w a t
theorem crow_new1 (w : World) (o : Obj) (a : Chg) (t : TypeId) : Crow ((w.alloc o).alloc (.cells (cca a) t)) (.slice (some ⟨w.heap.size + 1, 0, none⟩) 1 1) [a] := by
  have h := crow_new0 (w.alloc o) a t
  simp only [World.size_alloc] at h
  exact h
def Grows6 (w : World) (ls : List Chg) (v : Value) (wr : World) : Prop := Own6 w wr v ls ∧ Below w.heap.size w wr
theorem grows6_stay {w wr w2 : World} {ls : List Chg} {v : Value} (h : Grows6 w ls v wr) (hb : Below wr.heap.size wr w2) : Grows6 w ls v w2 := ⟨owns_below h.1 hb, below_add h.2 hb h.2.size⟩
theorem grows6_more {w wr w2 w3 : World} {ls : List Chg} {x : Chg} {v v3 : Value} (h : Grows6 w ls v wr) (hb : Below wr.heap.size wr w2)
    (ho : w3.ownsRow w.heap.size 49 6 v3 (ls.length + 1) (fl chC ls ++ fl chC [x])) (hg : w2.grownBy w3 v.ownBlock) : Grows6 w (ls ++ [x]) v3 w3 := by
  obtain ⟨h1, h2⟩ := h
  refine ⟨?_, (below_add h2 hb h2.size).grown hg (below_add h2 hb h2.size).size (fun j hj => own_base h1 hj)⟩
  unfold Own6
  rw [fl_app, List.length_append]
  exact ho
theorem grows6_nil (w W : World) (h : Below w.heap.size w W) : Grows6 w [] (.slice none 0 0) W := ⟨World.ownsRow_nil _ _ _ _, h⟩

theorem tsnoc {α : Type} {xs : List α} {k : Nat} (h : k < xs.length) : xs.take (k + 1) = xs.take k ++ [xs[k]] := List.take_succ_eq_append_getElem h
theorem tend {α : Type} (xs : List α) : xs.take xs.length = xs := List.take_of_length_le (Nat.le_refl _)
def chs (xs : List Att) : List Chg := xs.map toC
def ats (xs : List Chg) : List Att := (xs.filter fun c => !c.g).map toA
theorem chs_snoc {xs : List Att} {k : Nat} (h : k < xs.length) : chs (xs.take (k + 1)) = chs (xs.take k) ++ [toC xs[k]] := by unfold chs; rw [tsnoc h, List.map_append]; rfl
theorem chs_len (xs : List Att) : (chs xs).length = xs.length := by simp [chs]
theorem ats_len (xs : List Chg) : (ats xs).length ≤ xs.length := by unfold ats; rw [List.length_map]; exact List.length_filter_le _ _
theorem ats_yes {xs : List Chg} {k : Nat} (h : k < xs.length) (hg : xs[k].g = false) : ats (xs.take (k + 1)) = ats (xs.take k) ++ [toA xs[k]] := by unfold ats; rw [tsnoc h, List.filter_append, List.map_append]; simp [hg]
theorem ats_no {xs : List Chg} {k : Nat} (h : k < xs.length) (hg : xs[k].g = true) : ats (xs.take (k + 1)) = ats (xs.take k) := by unfold ats; rw [tsnoc h, List.filter_append, List.map_append]; simp [hg]

set_option maxRecDepth 100000 in
set_option maxHeartbeats 1000000 in
theorem changes_any (v : Value) (xs : List Att) (w : World) (hv : Arow w v xs) (hl : xs.length ≤ 1000000000) :
    Calls Try.prog 51 #[v] w fun e w' => ∃ u, e = .returned u ∧ Own6 w w' u (chs xs) ∧ Below w.heap.size w w' := by
  obtain ⟨i0, hi, hz0, hz1, hz2⟩ := info_ch
  obtain ⟨a1, cap1, rfl⟩ := hv.shape
  by_cases h0 : 0 < xs.length
  · obtain ⟨b1, o1, rfl, -, -, -, hbl, hat⟩ := Arow.opn hv h0
    have HAT := Lib.hid hat
    clear hv hat
    go_enter Try.func51, Try.ntmps51
    go_wp2
    go_loopw [3, 8] (fun s3 s8 wr => ∃ k : Nat, k ≤ xs.length ∧ s8 = .int .i64 k ∧ Grows6 w (chs (xs.take k)) s3 wr) (fun _ s8 _ => xs.length - (intOf s8).toNat)
    case atStart => exact ⟨0, Nat.zero_le _, rfl, grows6_nil _ _ (Below.refl _ _)⟩
    case round =>
      obtain ⟨k, hk, rfl, hR⟩ := hrel
      by_cases hlt : k < xs.length
      · obtain ⟨c0, c1, c2, c3, c4⟩ := (HAT.out k hlt).below hR.2 hbl
        have hs := chs_snoc hlt
        have hll : (chs (xs.take k)).length ≤ 1000000000 := by rw [chs_len, List.length_take]; omega
        have hsz := hR.2.size
        have HS := Lib.hid hs
        have HR := Lib.hid hR
        clear hR hs
        generalize xs[k] = x at *
        obtain ⟨x1, x2, x3, x4, x5⟩ := x
        simp only at c0 c1 c2 c3 c4
        generalize chs (xs.take k) = ls at *
        have hE : Below wr.heap.size wr (wr.alloc (.cells #[.int .i64 x1, .int .u8 x2, .int .i64 x3, .int .u64 x4, .string x5] 64)) := (Below.refl _ _).alloc (Nat.le_refl _) _
        go_wp2_with (at_builtin; go_loud (refine wpList_append_row (C := chC) rfl (.tmp 12) (.tmp 18) 23 rfl w.heap.size 49 i0 (cv noChg) 56 Try.underlying23 hi hz0 hz1 hz2 rfl _ _ _ rfl (owns_below HR.out.1 (hE.alloc hE.size _)) _ [toC ⟨x1, x2, x3, x4, x5⟩] rfl (crow_new1 wr _ (toC ⟨x1, x2, x3, x4, x5⟩) 49) (by unfold maxLen; simp; omega) (by simp; omega) (by simp; omega) ?_); intro v3 w3 hown3 hgrow3)
        have HC := Lib.hid (grows6_more HR.out (hE.alloc hE.size _) hown3 hgrow3)
        go_roundw
        case rel => exact ⟨k + 1, by omega, by go_num, by rw [HS.out]; exact HC.out⟩
        case measure => simp [intOf]; omega
      · obtain rfl : k = xs.length := by omega
        have HR := Lib.hid hR
        clear hR
        go_wp2
        go_ret
        have h := HR.out
        rw [tend] at h
        exact ⟨_, rfl, h⟩
  · obtain rfl : xs = [] := List.eq_nil_of_length_eq_zero (by omega)
    clear hv h0 hl
    go_enter Try.func51, Try.ntmps51
    go_wp2
    refine wp_loop_rounds 1 ?_
    rw [rounds_succ]
    go_wp2
    go_ret
    exact ⟨_, rfl, World.ownsRow_nil _ _ _ _, Below.refl _ _⟩

set_option maxRecDepth 100000 in
set_option maxHeartbeats 1000000 in
theorem attributes_any (v : Value) (xs : List Chg) (w : World) (hv : Crow w v xs) (hl : xs.length ≤ 1000000000) :
    Calls Try.prog 50 #[v] w fun e w' => ∃ u, e = .returned u ∧ Own5 w w' u (ats xs) ∧ Below w.heap.size w w' := by
  obtain ⟨i0, hi, hz0, hz1, hz2⟩ := info_at
  obtain ⟨a1, cap1, rfl⟩ := hv.shape
  by_cases h0 : 0 < xs.length
  · obtain ⟨b1, o1, rfl, -, -, -, hbl, hat⟩ := Crow.opn hv h0
    have HAT := Lib.hid hat
    clear hv hat
    go_enter Try.func50, Try.ntmps50
    go_wp2
    go_loopw [3, 8] (fun s3 s8 wr => ∃ k : Nat, k ≤ xs.length ∧ s8 = .int .i64 k ∧ Grows w (ats (xs.take k)) s3 wr) (fun _ s8 _ => xs.length - (intOf s8).toNat)
    case atStart => exact ⟨0, Nat.zero_le _, rfl, own5_nil _ _, Below.refl _ _⟩
    case round =>
      obtain ⟨k, hk, rfl, hR⟩ := hrel
      by_cases hlt : k < xs.length
      · obtain ⟨c0, c1, c2, c3, c4, c5⟩ := (HAT.out k hlt).below hR.2 hbl
        have hY := fun h => ats_yes hlt h
        have hN := fun h => ats_no hlt h
        have hll : (ats (xs.take k)).length ≤ 1000000000 := by have := ats_len (xs.take k); rw [List.length_take] at this; omega
        have hsz := hR.2.size
        have HR := Lib.hid hR
        clear hR
        generalize xs[k] = x at *
        obtain ⟨x1, x0, x2, x3, x4, x5⟩ := x
        simp only at c0 c1 c2 c3 c4 c5 hY hN
        have hE : Below wr.heap.size wr (wr.alloc (.cells #[.int .i64 x1, .bool x0, .int .u8 x2, .int .i64 x3, .int .u64 x4, .string x5] 49)) := (Below.refl _ _).alloc (Nat.le_refl _) _
        cases x0
        · have HS := Lib.hid (hY rfl)
          clear hY hN
          generalize ats (xs.take k) = ls at *
          go_wp2_with (at_builtin; go_loud (refine wpList_append_row (C := attC) rfl (.tmp 15) (.tmp 21) 24 rfl w.heap.size 64 i0 (av noAtt) 48 Try.underlying24 hi hz0 hz1 hz2 rfl _ _ _ rfl (owns_below HR.out.1 (hE.alloc hE.size _)) _ [⟨x1, x2, x3, x4, x5⟩] rfl (row_new1 wr _ ⟨x1, x2, x3, x4, x5⟩ 64) (by unfold maxLen; simp; omega) (by simp; omega) (by simp; omega) ?_); intro v3 w3 hown3 hgrow3)
          have HC := Lib.hid (grows_more HR.out (hE.alloc hE.size _) hown3 hgrow3)
          go_roundw
          case rel => exact ⟨k + 1, by omega, by go_num, by rw [HS.out]; exact HC.out⟩
          case measure => simp [intOf]; omega
        · have HS := Lib.hid (hN rfl)
          clear hY hN
          have HC := Lib.hid (grows_stay HR.out hE)
          go_wp2
          go_roundw
          case rel => exact ⟨k + 1, by omega, by go_num, by rw [HS.out]; exact HC.out⟩
          case measure => simp [intOf]; omega
      · obtain rfl : k = xs.length := by omega
        have HR := Lib.hid hR
        clear hR
        go_wp2
        go_ret
        have h := HR.out
        rw [tend] at h
        exact ⟨_, rfl, h⟩
  · obtain rfl : xs = [] := List.eq_nil_of_length_eq_zero (by omega)
    clear hv h0 hl
    go_enter Try.func50, Try.ntmps50
    go_wp2
    refine wp_loop_rounds 1 ?_
    rw [rounds_succ]
    go_wp2
    go_ret
    exact ⟨_, rfl, own5_nil _ _, Below.refl _ _⟩

def app (xs : List Att) (p : List Chg) : List Att := ats (comp (chs xs) p)
def diff6 (a b : List Att) : List Chg := dif (chs a) (chs b)
def inv (a : List Att) (p : List Chg) : List Chg := diff6 (app a p) a
theorem app_len (xs : List Att) (p : List Chg) : (app xs p).length ≤ xs.length + p.length := by
  have := ats_len (comp (chs xs) p)
  have := comp_len (chs xs) p
  rw [chs_len] at this
  unfold app
  omega
theorem diff6_len (a b : List Att) : (diff6 a b).length ≤ a.length + b.length := by
  have := dif_len (chs a) (chs b)
  rw [chs_len, chs_len] at this
  exact this

set_option maxRecDepth 100000 in
theorem apply_any (v1 v2 : Value) (xs : List Att) (p : List Chg) (w : World) (h1 : Arow w v1 xs) (h2 : Crow w v2 p) (hl : xs.length + p.length ≤ 1000000000) :
    Calls Try.prog 24 #[v1, v2] w fun e w' => ∃ u, e = .returned u ∧ Own5 w w' u (app xs p) ∧ Below w.heap.size w w' := by
  have HC := Lib.hid (changes_any v1 xs w h1 (by omega))
  have HM := Lib.hid (fun u w' (h : Crow w' u (chs xs)) (h2 : Crow w' v2 p) => compose_any u v2 (chs xs) p w' h h2 (by rw [chs_len]; omega))
  have HA := Lib.hid (fun u w' (h : Crow w' u (comp (chs xs) p)) => attributes_any u (comp (chs xs) p) w' h (by have := comp_len (chs xs) p; rw [chs_len] at this; omega))
  have H2 := Lib.hid h2
  clear h1 h2
  go_enter Try.func24, Try.ntmps24
  go_wp2_with (first
    | (go_at_call 51; refine HC.out.mono ?_; rintro e w1 ⟨u1, rfl, ho1, hb1⟩)
    | (go_at_call 31; refine (HM.out u1 _ (own6_row ho1) (H2.out.below hb1 (Nat.le_refl _))).mono ?_; rintro e w2 ⟨u2, rfl, ho2, hb2⟩)
    | (go_at_call 50; refine (HA.out u2 _ (own6_row ho2)).mono ?_; rintro e w3 ⟨u3, rfl, ho3, hb3⟩))
  go_ret
  have hb12 := below_add hb1 hb2 hb1.size
  exact ⟨_, rfl, owns_mono ho3 hb12.size, below_add hb12 hb3 hb12.size⟩

set_option maxRecDepth 100000 in
theorem diff_any (v1 v2 : Value) (a b : List Att) (w : World) (h1 : Arow w v1 a) (h2 : Arow w v2 b) (hl : a.length + b.length ≤ 1000000000) :
    Calls Try.prog 36 #[v1, v2] w fun e w' => ∃ u, e = .returned u ∧ Own6 w w' u (diff6 a b) ∧ Below w.heap.size w w' := by
  have hb : Below w.heap.size w (w.alloc (.cells #[.slice none 0 0] 23)) := (Below.refl _ _).alloc (Nat.le_refl _) _
  have hc := nilcell_new w 23
  have hf := frozen_new w 23
  have hsz : (w.alloc (.cells #[.slice none 0 0] 23)).heap.size = w.heap.size + 1 := by simp
  have HC1 := Lib.hid (changes_any v1 a _ (h1.below hb (Nat.le_refl _)) (by omega))
  have HC2 := Lib.hid (fun w1 (h : Below w.heap.size w w1) => changes_any v2 b w1 (h2.below h (Nat.le_refl _)) (by omega))
  have HS := Lib.hid (fun v1 v2 W1 hc hf (h1 : Crow W1 v1 (chs a)) (h2 : Crow W1 v2 (chs b)) n1 n2 => side_any _ _ v1 v2 (chs a) (chs b) _ (pays_diff (B0 := w.heap.size) h1 h2 n1 n2 (by rw [chs_len, chs_len]; omega)) W1 ⟨_, acc_start hc hf⟩)
  have HB := Lib.hid hb
  clear h1 h2 hb
  go_enter Try.func36, Try.ntmps36
  go_wp2_with fail
  generalize w.alloc (.cells #[.slice none 0 0] 23) = w0 at *
  go_wp2_with (first
    | (go_at_call 51; with_reducible (refine HC1.out.mono ?_); rintro e w1 ⟨u1, rfl, ho1, hb1⟩; clear HC1)
    | (go_at_call 51; with_reducible (refine (HC2.out _ (below_add HB.out hb1 HB.out.size)).mono ?_); rintro e w2 ⟨u2, rfl, ho2, hb2⟩; have hb02 := below_add hb1 hb2 hb1.size)
    | (go_at_call 57; refine (HS.out u1 u2 _ ((hb02.cell (p := ⟨w.heap.size, 0, none⟩) (by show w.heap.size < w0.heap.size; omega)).trans hc) ((hb02.frozen (p := ⟨w.heap.size, 0, none⟩) (by show w.heap.size < w0.heap.size; omega)).trans hf) ((own6_row ho1).below hb2 (Nat.le_refl _)) (own6_row ho2) (off_own ho1 (by omega) _) (off_own ho2 (by have := hb1.size; omega) _)).mono ?_; rintro e w3 ⟨rfl, v, hA⟩; have hcv := hA.cell))
  go_ret
  exact ⟨_, rfl, acc_end hA (below_add HB.out hb02 HB.out.size)⟩

end Go.Proofs.Ythcakinllcffoaa

/- C6: patches held against one another; rising; Clone, Copy -/
namespace Go.Proofs.Ythcakinllcffoaa
open Go.RowKit
set_option linter.unusedVariables false

theorem ceq_step {xs ys : List Chg} {k : Nat} (h1 : k < xs.length) (h2 : k < ys.length) (h : xs.take k = ys.take k) (he : xs[k] = ys[k]) : xs.take (k + 1) = ys.take (k + 1) := by
  rw [tsnoc h1, tsnoc h2, h, he]
theorem ceq_end {xs ys : List Chg} (hl : xs.length = ys.length) (h : xs.take xs.length = ys.take xs.length) : xs = ys := by
  rw [List.take_of_length_le (Nat.le_refl _), hl, List.take_of_length_le (Nat.le_refl _)] at h; exact h
theorem ceq_bad {xs ys : List Chg} {k : Nat} (h1 : k < xs.length) (h2 : k < ys.length) (he : ¬ xs[k] = ys[k]) : ¬ xs = ys := by
  intro h; subst h; exact he rfl

set_option maxRecDepth 100000 in
theorem rsame_any6 (v1 v2 : Value) (xs ys : List Chg) (w : World) (h1 : Crow w v1 xs) (h2 : Crow w v2 ys) :
    Calls Try.prog 19 #[v1, v2] w fun e w' => e = .returned (.bool (decide (xs = ys))) ∧ ∃ q, w' = w.drewN q := by
  have hl1 := h1.len
  have hl2 := h2.len
  obtain ⟨a1, cap1, rfl⟩ := h1.shape
  obtain ⟨a2, cap2, rfl⟩ := h2.shape
  by_cases hl : xs.length = ys.length
  · by_cases h0 : 0 < xs.length
    · obtain ⟨b1, o1, rfl, -, -, -, -, hat1⟩ := Crow.opn h1 h0
      obtain ⟨b2, o2, rfl, -, -, -, -, hat2⟩ := Crow.opn h2 (by omega)
      clear h1 h2
      have H1 := Lib.hid hat1
      have H2 := Lib.hid hat2
      have HL := Lib.hid hl
      clear hat1 hat2
      rw [← hl]
      clear hl hl2
      go_enter Try.func19, Try.ntmps19
      go_wp2
      go_loopw [5] (fun i wr => ∃ k q : Nat, k ≤ xs.length ∧ i = .int .i64 k ∧ wr = w.drewN q ∧ Hid (xs.take k = ys.take k)) (fun i _ => xs.length - (intOf i).toNat)
      case atStart => exact ⟨0, 0, Nat.zero_le _, rfl, rfl, Lib.hid rfl⟩
      case round =>
        obtain ⟨k, q, hk, rfl, rfl, HP⟩ := hrel
        by_cases hlt : k < xs.length
        · have hlt2 : k < ys.length := by rw [← HL.out]; exact hlt
          obtain ⟨c0, c1, c2, c3, c4, c5⟩ := H1.out k hlt
          obtain ⟨d0, d1, d2, d3, d4, d5⟩ := H2.out k hlt2
          have hS := fun h => ceq_step hlt hlt2 HP.out h
          have hE := fun h => ceq_bad hlt hlt2 h
          have hD : ceq xs[k] ys[k] = decide (xs[k] = ys[k]) := ceq_dec _ _
          have hq := fun w => chg_neq xs[k] ys[k] w
          generalize xs[k] = x at *
          generalize ys[k] = y at *
          by_cases hxy : x = y
          · have HS := Lib.hid (hS hxy)
            have e1 : ceq x y = true := by rw [hD]; simp [hxy]
            rw [e1] at hq
            obtain ⟨x1, x0, x2, x3, x4, x5⟩ := x
            obtain ⟨y1, y0, y2, y3, y4, y5⟩ := y
            clear hS hE hD e1 hxy
            simp only at c0 c1 c2 c3 c4 c5 d0 d1 d2 d3 d4 d5 hq
            go_wp2
            go_quiet (fail)
            go_wp2
            go_roundw
            case rel => exact ⟨k + 1, q + nq, by omega, by go_num, by simp, HS⟩
            case measure => simp [intOf]; omega
          · have HS := Lib.hid (hE hxy)
            have e1 : ceq x y = false := by rw [hD]; simp [hxy]
            rw [e1] at hq
            obtain ⟨x1, x0, x2, x3, x4, x5⟩ := x
            obtain ⟨y1, y0, y2, y3, y4, y5⟩ := y
            clear hS hE hD e1 hxy
            simp only at c0 c1 c2 c3 c4 c5 d0 d1 d2 d3 d4 d5 hq
            go_wp2
            go_quiet (fail)
            go_wp2
            go_ret
            exact ⟨dec_no HS.out, q + nq, by simp⟩
        · obtain rfl : k = xs.length := by omega
          have HE := Lib.hid (ceq_end HL.out HP.out)
          clear HP
          go_wp2
          go_ret
          exact ⟨dec_yes HE.out, _, rfl⟩
    · obtain rfl : xs = [] := List.eq_nil_of_length_eq_zero (by omega)
      obtain rfl : ys = [] := List.eq_nil_of_length_eq_zero (by simpa using hl.symm)
      clear h1 h2 h0 hl hl1 hl2
      go_enter Try.func19, Try.ntmps19
      go_wp2
      refine wp_loop_rounds 1 ?_
      rw [rounds_succ]
      go_wp2
      go_ret
      exact ⟨rfl, 0, rfl⟩
  · have HN := Lib.hid (show ¬ xs = ys from fun h => hl (by rw [h]))
    have e1 : ((xs.length : Int) != (ys.length : Int)) = true := by simp; omega
    clear h1 h2
    go_enter Try.func19, Try.ntmps19
    go_wp2
    go_ret
    exact ⟨dec_no HN.out, 0, rfl⟩


/-- Keys rise. -/
def RiseC (xs : List Chg) : Prop := xs.Pairwise (fun a b => a.key < b.key)
instance (xs : List Chg) : Decidable (RiseC xs) := by unfold RiseC; infer_instance
theorem crise_nil : RiseC [] := List.Pairwise.nil
theorem crise_step {xs : List Chg} {k : Nat} (h : k + 1 < xs.length) (hr : RiseC (xs.take (k + 1))) (hl : xs[k].key < xs[k + 1].key) : RiseC (xs.take (k + 1 + 1)) := by
  rw [tsnoc h]
  refine List.pairwise_append.2 ⟨hr, by simp, fun a ha b hb => ?_⟩
  simp at hb
  subst hb
  rw [tsnoc (by omega : k < xs.length)] at ha hr
  rcases List.mem_append.1 ha with ha | ha
  · have := (List.pairwise_append.1 hr).2.2 a ha xs[k] (by simp)
    omega
  · simp at ha; subst ha; exact hl
theorem crise_bad {xs : List Chg} {k : Nat} (h : k + 1 < xs.length) (hl : ¬ xs[k].key < xs[k + 1].key) : ¬ RiseC xs := fun hr =>
  hl (List.pairwise_iff_getElem.1 hr k (k + 1) (by omega) h (by omega))
theorem crise_end {xs : List Chg} (hr : RiseC (xs.take xs.length)) : RiseC xs := by rwa [List.take_of_length_le (Nat.le_refl _)] at hr
theorem crise_one {xs : List Chg} : RiseC (xs.take (0 + 1)) := by
  cases xs with
  | nil => exact crise_nil
  | cons x r => simp [RiseC]

set_option maxRecDepth 100000 in
theorem rising_any6 (v : Value) (xs : List Chg) (w : World) (h1 : Crow w v xs) :
    Calls Try.prog 11 #[v] w fun e w' => e = .returned (.bool (decide (RiseC xs))) ∧ ∃ q, w' = w.drewN q := by
  have hl1 := h1.len
  obtain ⟨a1, cap1, rfl⟩ := h1.shape
  by_cases h0 : 0 < xs.length
  · obtain ⟨b1, o1, rfl, -, -, -, -, hat1⟩ := Crow.opn h1 h0
    clear h1
    have H1 := Lib.hid hat1
    clear hat1
    go_enter Try.func11, Try.ntmps11
    go_wp2
    go_loopw [3] (fun i wr => ∃ k q : Nat, k + 1 ≤ xs.length ∧ i = .int .i64 ((k : Int) + 1) ∧ wr = w.drewN q ∧ Hid (RiseC (xs.take (k + 1)))) (fun i _ => xs.length - (intOf i).toNat)
    case atStart => exact ⟨0, 0, h0, rfl, rfl, Lib.hid crise_one⟩
    case round =>
      obtain ⟨k, q, hk, rfl, rfl, HP⟩ := hrel
      by_cases hlt : k + 1 < xs.length
      · obtain ⟨c0, -, -, -, -, -⟩ := H1.out k (by omega)
        obtain ⟨d0, -, -, -, -, -⟩ := H1.out (k + 1) hlt
        have hS := fun h => crise_step hlt HP.out h
        have hB := fun h => crise_bad hlt h
        generalize xs[k].key = x at *
        generalize xs[k + 1].key = y at *
        by_cases hxy : x < y
        · have HS := Lib.hid (hS hxy)
          have e1 : decide (y ≤ x) = false := by rw [decide_eq_false_iff_not]; omega
          clear hS hB hxy
          go_wp2
          go_quiet (fail)
          go_wp2
          go_roundw
          case rel => exact ⟨k + 1, q + nq, by omega, by go_num, by simp, HS⟩
          case measure => simp [intOf]; omega
        · have HS := Lib.hid (hB hxy)
          have e1 : decide (y ≤ x) = true := by rw [decide_eq_true_iff]; omega
          clear hS hB hxy
          go_wp2
          go_quiet (fail)
          go_wp2
          go_ret
          exact ⟨dec_no HS.out, q + nq, by simp⟩
      · have hkk : xs.length = k + 1 := by omega
        have HE := Lib.hid (crise_end (by rw [hkk]; exact HP.out))
        clear HP
        go_wp2
        go_ret
        exact ⟨dec_yes HE.out, _, rfl⟩
  · obtain rfl : xs = [] := List.eq_nil_of_length_eq_zero (by omega)
    clear h1 h0 hl1
    go_enter Try.func11, Try.ntmps11
    go_wp2
    refine wp_loop_rounds 1 ?_
    rw [rounds_succ]
    go_wp2
    go_ret
    exact ⟨rfl, 0, rfl⟩
end Go.Proofs.Ythcakinllcffoaa

/- C8: wellFormed -/
namespace Go.Proofs.Ythcakinllcffoaa
open Go.RowKit
set_option linter.unusedVariables false

theorem vneq (k n f k' n' f' : Int) (s s' : ByteArray) (w : World) :
    (binOp .neq 47 (val k n f s) (val k' n' f' s')).run Try.prog w = .ok (.bool (!((k == k') && (n == n') && (f == f') && (s.toList == s'.toList)))) w := by
  have h := val_eql k n f k' n' f' s s' w
  rw [run_eql_struct] at h
  rw [run_neq_struct]
  revert h
  generalize (Op.equalIn 10000 47 (val k n f s) (val k' n' f' s')).run Try.prog w = r
  cases r <;> intro h <;> simp [Result.andThen] at h ⊢
  obtain ⟨h1, h2⟩ := h
  simp [h1, h2]
/-- Is a change's value zero? -/
def zv (c : Chg) : Bool := (c.k == 0) && (c.n == 0) && (c.f == 0) && (c.s.toList == (⟨#[]⟩ : ByteArray).toList)
def gOk (c : Chg) : Bool := !c.g || zv c
def wf6 (xs : List Chg) : Bool := decide (RiseC xs) && decide (xs.length ≤ 64) && xs.all gOk
theorem gok_step {xs : List Chg} {k : Nat} (h : k < xs.length) (hp : (xs.take k).all gOk = true) (hx : gOk xs[k] = true) : (xs.take (k + 1)).all gOk = true := by rw [tsnoc h, List.all_append, hp]; simpa using hx
theorem gok_bad {xs : List Chg} {k : Nat} (h : k < xs.length) (hx : gOk xs[k] = false) : xs.all gOk = false := by rw [List.all_eq_false]; exact ⟨_, List.getElem_mem h, by rw [hx]; exact Bool.false_ne_true⟩
theorem wf6_badV {xs : List Chg} (h : xs.all gOk = false) : wf6 xs = false := by unfold wf6; rw [h, Bool.and_false]
theorem wf6_badR {xs : List Chg} (h : ¬ RiseC xs) : wf6 xs = false := by unfold wf6; rw [decide_eq_false h]; rfl
theorem wf6_badL {xs : List Chg} (h : 64 < xs.length) : wf6 xs = false := by unfold wf6; rw [show decide (xs.length ≤ 64) = false by rw [decide_eq_false_iff_not]; omega]; simp
theorem wf6_good {xs : List Chg} (h1 : RiseC xs) (h2 : xs.length ≤ 64) (h3 : xs.all gOk = true) : wf6 xs = true := by unfold wf6; rw [decide_eq_true h1, decide_eq_true h2, h3]; rfl
theorem wf6_parts {xs : List Chg} (h : wf6 xs = true) : RiseC xs ∧ xs.length ≤ 64 ∧ xs.all gOk = true := by unfold wf6 at h; simpa [and_assoc] using h
theorem crise_zero {xs : List Chg} : RiseC (xs.take 0) := by simp [RiseC]

set_option maxRecDepth 100000 in
set_option maxHeartbeats 1000000 in
theorem wf6_any (v : Value) (xs : List Chg) (w : World) (hv : Crow w v xs) :
    Calls Try.prog 48 #[v] w fun e w' => e = .returned (.bool (wf6 xs)) ∧ Below w.heap.size w w' := by
  have hl := hv.len
  obtain ⟨a1, cap1, rfl⟩ := hv.shape
  by_cases hlong : 64 < xs.length
  · have HN := Lib.hid (wf6_badL hlong)
    have d1 : decide ((64 : Int) < (xs.length : Int)) = true := by rw [decide_eq_true_iff]; omega
    clear hv hlong
    go_enter Try.func48, Try.ntmps48
    go_wp2
    go_ret
    exact ⟨by rw [HN.out]; rfl, Below.refl _ _⟩
  have d1 : decide ((64 : Int) < (xs.length : Int)) = false := by rw [decide_eq_false_iff_not]; omega
  by_cases h0 : 0 < xs.length
  · obtain ⟨b1, o1, rfl, -, -, -, hbl, hat⟩ := Crow.opn hv h0
    have HAT := Lib.hid hat
    have HLG := Lib.hid (show xs.length ≤ 64 by omega)
    clear hv hat hlong
    go_enter Try.func48, Try.ntmps48
    go_wp2
    go_loopw [10] (fun s10 wr => ∃ k : Nat, k ≤ xs.length ∧ s10 = .int .i64 k ∧ Hid (RiseC (xs.take k) ∧ (xs.take k).all gOk = true) ∧ Below w.heap.size w wr) (fun s10 _ => xs.length - (intOf s10).toNat)
    case atStart => exact ⟨0, Nat.zero_le _, rfl, Lib.hid ⟨crise_zero, rfl⟩, Below.refl _ _⟩
    case round =>
      obtain ⟨k, hk, rfl, HP, hb⟩ := hrel
      by_cases hlt : k < xs.length
      · obtain ⟨c0, c1, c2, c3, c4, c5⟩ := (HAT.out k hlt).below hb hbl
        have hsz := hb.size
        have hVS := fun h => gok_step hlt HP.out.2 h
        have hVB := fun h => wf6_badV (gok_bad hlt h)
        have hNQ := fun w => vneq xs[k].k xs[k].n xs[k].f 0 0 0 xs[k].s ⟨#[]⟩ w
        have hZ : zv xs[k] = ((xs[k].k == 0) && (xs[k].n == 0) && (xs[k].f == 0) && (xs[k].s.toList == (⟨#[]⟩ : ByteArray).toList)) := rfl
        have hG : gOk xs[k] = (!xs[k].g || zv xs[k]) := rfl
        rw [← hZ] at hNQ
        cases k with
        | zero =>
          have HR1 := Lib.hid (show RiseC (xs.take (0 + 1)) from crise_one)
          rw [hG] at hVS hVB
          generalize zv xs[0] = z at *
          generalize xs[0] = x at *
          clear hG hZ
          obtain ⟨x1, x0, x2, x3, x4, x5⟩ := x
          simp only at c0 c1 c2 c3 c4 c5 hVS hVB hNQ
          simp only [Nat.zero_mul, Nat.add_zero] at c0 c1 c2 c3 c4 c5
          have hbx := CBox.box ⟨x1, x0, x2, x3, x4, x5⟩ wr 49
          obtain ⟨g0, g1, g2, g3, g4, g5⟩ := hbx
          have HB := Lib.hid (hb.alloc hb.size (.cells (cca ⟨x1, x0, x2, x3, x4, x5⟩) 49))
          clear hb
          cases x0
          · have HVS := Lib.hid (hVS rfl)
            clear hVS hVB
            go_wp2
            go_quiet (fail)
            go_wp2
            go_roundw
            case rel => exact ⟨0 + 1, by omega, by go_num, Lib.hid ⟨HR1.out, HVS.out⟩, blw_drewN HB.out _⟩
            case measure => simp [intOf]; omega
          · cases z
            · have HVB := Lib.hid (hVB rfl)
              clear hVS hVB
              go_wp2
              go_quiet (fail)
              go_wp2
              go_ret
              exact ⟨by rw [HVB.out]; rfl, blw_drewN HB.out _⟩
            · have HVS := Lib.hid (hVS rfl)
              clear hVS hVB
              go_wp2
              go_quiet (fail)
              go_wp2
              go_roundw
              case rel => exact ⟨0 + 1, by omega, by go_num, Lib.hid ⟨HR1.out, HVS.out⟩, blw_drewN HB.out _⟩
              case measure => simp [intOf]; omega
        | succ j =>
          have hjl : j < xs.length := by omega
          have hRS := fun h => crise_step hlt HP.out.1 h
          have hRB := fun h => wf6_badR (crise_bad hlt h)
          have hj1 : ((j + 1 : Nat) : Int) = (j : Int) + 1 := by omega
          have hwr : IntKind.i64.wrap (j : Int) = (j : Int) := by have := HLG.out; rw [IntKind.wrap_i64]; omega
          obtain ⟨p0, -, -, -, -, -⟩ := ((HAT.out j hjl).below hb hbl).below ((Below.refl _ _).alloc (Nat.le_refl _) (.cells (cca xs[j + 1]) 49)) (by omega : b1 < wr.heap.size)
          rw [hG] at hVS hVB
          generalize zv xs[j + 1] = z at *
          generalize xs[j + 1] = x at *
          generalize xs[j].key = y at *
          clear hG hZ
          rw [hj1]
          obtain ⟨x1, x0, x2, x3, x4, x5⟩ := x
          simp only at c0 c1 c2 c3 c4 c5 hVS hVB hNQ hRS hRB p0
          have hbx := CBox.box ⟨x1, x0, x2, x3, x4, x5⟩ wr 49
          obtain ⟨g0, g1, g2, g3, g4, g5⟩ := hbx
          have HB := Lib.hid (hb.alloc hb.size (.cells (cca ⟨x1, x0, x2, x3, x4, x5⟩) 49))
          clear hb
          by_cases hle : x1 ≤ y
          · have e1 : decide (x1 ≤ y) = true := by simpa using hle
            have HVB := Lib.hid (hRB (by omega))
            clear hVS hVB hRS hRB hle
            go_wp2
            go_quiet (fail)
            go_wp2
            go_ret
            exact ⟨by rw [HVB.out]; rfl, blw_drewN HB.out _⟩
          · have e1 : decide (x1 ≤ y) = false := by simpa using hle
            have HRS := Lib.hid (hRS (by omega))
            clear hRS hRB hle
            cases x0
            · have HVS := Lib.hid (hVS rfl)
              clear hVS hVB
              go_wp2
              go_quiet (fail)
              go_wp2
              go_roundw
              case rel => exact ⟨j + 1 + 1, by omega, by go_num, Lib.hid ⟨HRS.out, HVS.out⟩, blw_drewN HB.out _⟩
              case measure => simp [intOf]; omega
            · cases z
              · have HVB := Lib.hid (hVB rfl)
                clear hVS hVB
                go_wp2
                go_quiet (fail)
                go_wp2
                go_ret
                exact ⟨by rw [HVB.out]; rfl, blw_drewN HB.out _⟩
              · have HVS := Lib.hid (hVS rfl)
                clear hVS hVB
                go_wp2
                go_quiet (fail)
                go_wp2
                go_roundw
                case rel => exact ⟨j + 1 + 1, by omega, by go_num, Lib.hid ⟨HRS.out, HVS.out⟩, blw_drewN HB.out _⟩
                case measure => simp [intOf]; omega
      · obtain rfl : k = xs.length := by omega
        have HB := Lib.hid hb
        have hp := HP.out
        rw [tend] at hp
        have HG := Lib.hid (wf6_good hp.1 HLG.out hp.2)
        clear hb hp
        go_wp2
        go_ret
        exact ⟨by rw [HG.out]; rfl, HB.out⟩
  · obtain rfl : xs = [] := List.eq_nil_of_length_eq_zero (by omega)
    clear hv h0 hl hlong
    go_enter Try.func48, Try.ntmps48
    go_wp2
    refine wp_loop_rounds 1 ?_
    rw [rounds_succ]
    go_wp2
    go_ret
    exact ⟨rfl, Below.refl _ _⟩
end Go.Proofs.Ythcakinllcffoaa

/- C9: May, the reference's Find -/
namespace Go.Proofs.Ythcakinllcffoaa
open Go.RowKit
set_option linter.unusedVariables false

/-- Is each key one of the schema's? -/
def isIn (ks : List Key) (c : Chg) : Bool := (fnd ks c.key).isSome
def may6 (ks : List Key) (xs : List Chg) : Int := if wf6 xs && okV (ats xs) then (if okF5 ks (ats xs) && xs.all (isIn ks) then 0 else 4) else 3
theorem may6_bad {ks : List Key} {xs : List Chg} (h : wf6 xs = false) : may6 ks xs = 3 := by unfold may6; rw [h]; rfl
theorem may6_out {ks : List Key} {xs : List Chg} (h : wf6 xs = true) (hv : okV (ats xs) = true) (hf : okF5 ks (ats xs) = true) (hi : xs.all (isIn ks) = false) : may6 ks xs = 4 := by unfold may6; rw [h, hv, hf, hi]; rfl
theorem may6_ok {ks : List Key} {xs : List Chg} (h : wf6 xs = true) (hv : okV (ats xs) = true) (hf : okF5 ks (ats xs) = true) (hi : xs.all (isIn ks) = true) : may6 ks xs = 0 := by unfold may6; rw [h, hv, hf, hi]; rfl
theorem ats_sub {xs : List Chg} : ∀ a ∈ ats xs, ∃ c ∈ xs, c.g = false ∧ a = toA c := by
  intro a ha
  obtain ⟨c, hc, rfl⟩ := List.mem_map.1 ha
  obtain ⟨h1, h2⟩ := List.mem_filter.1 hc
  exact ⟨c, h1, by simpa using h2, rfl⟩
theorem ats_rise {xs : List Chg} (h : RiseC xs) : Rise (ats xs) := by
  unfold ats Rise
  rw [List.pairwise_map]
  exact (h.sublist List.filter_sublist)
theorem ats_w {xs : List Chg} (h : ∀ c ∈ xs, ChgW c) : ∀ a ∈ ats xs, AttW a := by
  intro a ha
  obtain ⟨c, hc, -, rfl⟩ := ats_sub a ha
  have := h c hc
  exact ⟨this.key, this.k, this.n, this.f, this.s⟩
/-- What layer 5 tells of the part that is not gone. -/
theorem may5_ats {ks : List Key} {xs : List Chg} (h : wf6 xs = true) : may5 ks (ats xs) = if okV (ats xs) then (if okF5 ks (ats xs) then 0 else 4) else 3 := by
  obtain ⟨h1, h2, -⟩ := wf6_parts h
  have hl := ats_len xs
  unfold may5 wf5
  rw [decide_eq_true (ats_rise h1), decide_eq_true (show (ats xs).length ≤ 64 by omega)]
  simp
theorem in_step {ks : List Key} {xs : List Chg} {k : Nat} (h : k < xs.length) (hp : (xs.take k).all (isIn ks) = true) (hx : isIn ks xs[k] = true) : (xs.take (k + 1)).all (isIn ks) = true := by rw [tsnoc h, List.all_append, hp]; simpa using hx
theorem in_bad {ks : List Key} {xs : List Chg} {k : Nat} (h : k < xs.length) (hx : isIn ks xs[k] = false) : xs.all (isIn ks) = false := by rw [List.all_eq_false]; exact ⟨_, List.getElem_mem h, by rw [hx]; exact Bool.false_ne_true⟩

set_option maxRecDepth 100000 in
set_option maxHeartbeats 1000000 in
theorem may_any6 (p : Value) (ks : List Key) (v : Value) (xs : List Chg) (w : World) (hs : Sch w p ks) (hv : Crow w v xs) (hW : ∀ a ∈ xs, ChgW a) :
    Calls Try.prog 23 #[p, v] w fun e w' => e = .returned (.int .i64 (may6 ks xs)) ∧ Below w.heap.size w w' := by
  have hl := hv.len
  have hwf := wf6_any v xs w hv
  cases hw6 : wf6 xs
  · rw [hw6] at hwf
    have HWF := Lib.hid hwf
    have HN := Lib.hid (may6_bad (ks := ks) hw6)
    clear hv hs hW hwf hw6
    go_enter Try.func23, Try.ntmps23
    go_wp2_with (go_at_call 48; refine HWF.out.mono ?_; rintro e w1 ⟨rfl, hb1⟩)
    go_ret
    exact ⟨ret_may HN.out.symm, hb1⟩
  rw [hw6] at hwf
  have HWF := Lib.hid hwf
  have H6 := Lib.hid hw6
  have hl64 := (wf6_parts hw6).2.1
  have HA := Lib.hid (fun w1 (h : Below w.heap.size w w1) => attributes_any v xs w1 (hv.below h (Nat.le_refl _)) (by omega))
  have hm := may5_ats (ks := ks) hw6
  have HM := Lib.hid (fun u w1 (h : Below w.heap.size w w1) (hu : Arow w1 u (ats xs)) => may_any5 p ks u (ats xs) w1 (hs.below h (Nat.le_refl _)) hu (ats_w hW))
  clear hwf hw6
  cases hV : okV (ats xs)
  · rw [hV] at hm
    simp only [Bool.false_eq_true, if_false] at hm
    rw [hm] at HM
    have HN := Lib.hid (show may6 ks xs = 3 by unfold may6; rw [hV, Bool.and_false]; rfl)
    clear hv hs hW hm hV
    go_enter Try.func23, Try.ntmps23
    go_wp2_with (first
      | (go_at_call 48; refine HWF.out.mono ?_; rintro e w1 ⟨rfl, hb1⟩)
      | (go_at_call 50; refine (HA.out _ hb1).mono ?_; rintro e w2 ⟨u2, rfl, ho2, hb2⟩; have hb12 := below_add hb1 hb2 hb1.size)
      | (go_at_call 49; refine (HM.out u2 _ hb12 (Own5.row ho2)).mono ?_; rintro e w3 ⟨rfl, hb3⟩))
    go_ret
    exact ⟨ret_may HN.out.symm, below_add hb12 hb3 hb12.size⟩
  cases hF : okF5 ks (ats xs)
  · rw [hV, hF] at hm
    simp only [Bool.false_eq_true, if_false, if_true] at hm
    rw [hm] at HM
    have HN := Lib.hid (show may6 ks xs = 4 by have := H6.out; unfold may6; rw [this, hV, hF]; rfl)
    clear hv hs hW hm hV hF
    go_enter Try.func23, Try.ntmps23
    go_wp2_with (first
      | (go_at_call 48; refine HWF.out.mono ?_; rintro e w1 ⟨rfl, hb1⟩)
      | (go_at_call 50; refine (HA.out _ hb1).mono ?_; rintro e w2 ⟨u2, rfl, ho2, hb2⟩; have hb12 := below_add hb1 hb2 hb1.size)
      | (go_at_call 49; refine (HM.out u2 _ hb12 (Own5.row ho2)).mono ?_; rintro e w3 ⟨rfl, hb3⟩))
    go_ret
    exact ⟨ret_may HN.out.symm, below_add hb12 hb3 hb12.size⟩
  rw [hV, hF] at hm
  simp only [if_true] at hm
  rw [hm] at HM
  have H6 := Lib.hid (⟨H6.out, hV, hF⟩ : wf6 xs = true ∧ okV (ats xs) = true ∧ okF5 ks (ats xs) = true)
  clear hm hV hF
  obtain ⟨a1, cap1, rfl⟩ := hv.shape
  by_cases h0 : 0 < xs.length
  · obtain ⟨b1, o1, rfl, -, -, -, hbl, hat⟩ := Crow.opn hv h0
    have HAT := Lib.hid hat
    have HWA := Lib.hid hW
    have HS := Lib.hid hs
    clear hv hat hW hs
    go_enter Try.func23, Try.ntmps23
    go_wp2_with (first
      | (go_at_call 48; refine HWF.out.mono ?_; rintro e w1 ⟨rfl, hb1⟩)
      | (go_at_call 50; refine (HA.out _ hb1).mono ?_; rintro e w2 ⟨u2, rfl, ho2, hb2⟩; have hb12 := below_add hb1 hb2 hb1.size)
      | (go_at_call 49; refine (HM.out u2 _ hb12 (Own5.row ho2)).mono ?_; rintro e w3 ⟨rfl, hb3⟩))
    have HB3 := Lib.hid (below_add hb12 hb3 hb12.size)
    clear hb1 hb12 hb3 ho2 hb2
    go_loopw [22] (fun s12 wr => ∃ k : Nat, k ≤ xs.length ∧ s12 = .int .i64 k ∧ Hid ((xs.take k).all (isIn ks) = true) ∧ Below w.heap.size w wr) (fun s12 _ => xs.length - (intOf s12).toNat)
    case atStart => exact ⟨0, Nat.zero_le _, rfl, Lib.hid rfl, HB3.out⟩
    case round =>
      obtain ⟨k, hk, rfl, HP, hb⟩ := hrel
      by_cases hlt : k < xs.length
      · obtain ⟨c0, c1, c2, c3, c4, c5⟩ := (HAT.out k hlt).below hb hbl
        have hw := (HWA.out _ (List.getElem_mem hlt)).key
        have HF := Lib.hid (fun w1 (h1 : Below w.heap.size w w1) => find_any p ks xs[k].key w1 (HS.out.below h1 (Nat.le_refl _)) hw)
        have hFS := fun h => in_step (ks := ks) hlt HP.out h
        have hFB := fun h => may6_out H6.out.1 H6.out.2.1 H6.out.2.2 (in_bad (ks := ks) hlt h)
        have hIN : isIn ks xs[k] = (fnd ks xs[k].key).isSome := rfl
        rw [hIN] at hFS hFB
        clear hw hIN
        generalize xs[k] = x at *
        obtain ⟨x1, x0, x2, x3, x4, x5⟩ := x
        simp only at c0 c1 c2 c3 c4 c5 HF hFS hFB
        have hB1 := hb.alloc hb.size (.cells (cca ⟨x1, x0, x2, x3, x4, x5⟩) 49)
        have HFX := Lib.hid (HF.out _ hB1)
        have HB := Lib.hid hB1
        clear HF hB1 hb
        cases hf : fnd ks x1 with
        | none =>
          have h3 := HFX.out
          rw [fndV_none hf] at h3
          have HF3 := Lib.hid h3
          have HN := Lib.hid (hFB (by rw [hf]; rfl))
          clear hFS hFB h3 HFX hf
          go_wp2_with (go_at_call 27; refine HF3.out.mono ?_; rintro e w2 ⟨rfl, hb2⟩)
          have hb9 := below_add HB.out hb2 HB.out.size
          go_ret
          exact ⟨ret_may HN.out.symm, hb9.alloc hb9.size _⟩
        | some key =>
          have h3 := HFX.out
          rw [fndV_some hf] at h3
          have HF3 := Lib.hid h3
          have HN := Lib.hid (hFS (by rw [hf]; rfl))
          clear hFS hFB h3 HFX hf
          obtain ⟨y1, y2, y3, y4, y5, y6⟩ := key
          go_wp2_with (go_at_call 27; refine HF3.out.mono ?_; rintro e w2 ⟨rfl, hb2⟩)
          have hb9 := below_add HB.out hb2 HB.out.size
          have HB9 := Lib.hid (hb9.alloc hb9.size (.cells (kca ⟨y1, y2, y3, y4, y5, y6⟩) 59))
          clear hb9 hb2
          go_roundw
          case rel => exact ⟨k + 1, by omega, by go_num, HN, HB9.out⟩
          case measure => simp [intOf]; omega
      · obtain rfl : k = xs.length := by omega
        have HB := Lib.hid hb
        have hp := HP.out
        rw [tend] at hp
        have HG := Lib.hid (may6_ok H6.out.1 H6.out.2.1 H6.out.2.2 hp)
        clear hb hp
        go_wp2
        go_ret
        exact ⟨ret_may HG.out.symm, HB.out⟩
  · obtain rfl : xs = [] := List.eq_nil_of_length_eq_zero (by omega)
    have HG := Lib.hid (may6_ok H6.out.1 H6.out.2.1 H6.out.2.2 (show ([] : List Chg).all (isIn ks) = true from rfl))
    clear hv h0 hl hW hs H6
    go_enter Try.func23, Try.ntmps23
    go_wp2_with (first
      | (go_at_call 48; refine HWF.out.mono ?_; rintro e w1 ⟨rfl, hb1⟩)
      | (go_at_call 50; refine (HA.out _ hb1).mono ?_; rintro e w2 ⟨u2, rfl, ho2, hb2⟩; have hb12 := below_add hb1 hb2 hb1.size)
      | (go_at_call 49; refine (HM.out u2 _ hb12 (Own5.row ho2)).mono ?_; rintro e w3 ⟨rfl, hb3⟩))
    refine wp_loop_rounds 1 ?_
    rw [rounds_succ]
    go_wp2
    go_ret
    exact ⟨ret_may HG.out.symm, below_add hb12 hb3 hb12.size⟩
end Go.Proofs.Ythcakinllcffoaa

/- C10: the reference's Find -/
namespace Go.Proofs.Ythcakinllcffoaa
open Go.RowKit
set_option linter.unusedVariables false

def getC (xs : List Chg) (key : Int) : Option Chg := xs.find? fun c => c.key == key
theorem getC_step {xs : List Chg} {key : Int} {k : Nat} (h : k < xs.length) (hf : getC (xs.take k) key = none) (hne : ¬ xs[k].key = key) : getC (xs.take (k + 1)) key = none := by
  unfold getC at *
  rw [tsnoc h, List.find?_append, hf]; simp [hne]
theorem getC_found {xs : List Chg} {key : Int} {k : Nat} (h : k < xs.length) (hf : getC (xs.take k) key = none) (he : xs[k].key = key) : getC xs key = some xs[k] := by
  unfold getC at *
  conv => lhs; rw [← List.take_append_drop (k + 1) xs, tsnoc h]
  rw [List.find?_append, List.find?_append, hf]; simp [he]
theorem getC_end {xs : List Chg} {key : Int} (hf : getC (xs.take xs.length) key = none) : getC xs key = none := by rwa [List.take_of_length_le (Nat.le_refl _)] at hf
@[reducible] def getCV (xs : List Chg) (key : Int) : Value := .tuple #[cv ((getC xs key).getD noChg), .bool (getC xs key).isSome]
theorem getCV_some {xs : List Chg} {key : Int} {a : Chg} (h : getC xs key = some a) : getCV xs key = .tuple #[cv a, .bool true] := by unfold getCV; rw [h]; rfl
theorem getCV_none {xs : List Chg} {key : Int} (h : getC xs key = none) : getCV xs key = .tuple #[cv noChg, .bool false] := by unfold getCV; rw [h]; rfl

set_option maxRecDepth 100000 in
set_option maxHeartbeats 400000 in
theorem rfind6_any (v : Value) (xs : List Chg) (key : Int) (w : World) (hv : Crow w v xs) :
    Calls Try.prog 42 #[v, .int .i64 key] w fun e w' => e = .returned (getCV xs key) ∧ Below w.heap.size w w' := by
  have hl := hv.len
  obtain ⟨a, cap, rfl⟩ := hv.shape
  by_cases h0 : 0 < xs.length
  · obtain ⟨b, off, rfl, -, -, -, hbl, hat⟩ := Crow.opn hv h0
    clear hv
    have hB := (Below.refl w.heap.size w).alloc (Nat.le_refl _) (.cells (cca noChg) 49)
    have hat2 := Lib.hid (fun j (hj : j < xs.length) => (hat j hj).below hB hbl)
    clear hat
    go_enter Try.func42, Try.ntmps42
    go_wp2
    go_loop [6] (fun i => ∃ k : Nat, k ≤ xs.length ∧ i = .int .i64 k ∧ Hid (getC (xs.take k) key = none)) (fun i => xs.length - (intOf i).toNat)
    case atStart => exact ⟨0, Nat.zero_le _, rfl, Lib.hid rfl⟩
    case round =>
      obtain ⟨k, hk, rfl, HF⟩ := hrel
      by_cases hlt : k < xs.length
      · obtain ⟨c0, c1, c2, c3, c4, c5⟩ := hat2.out k hlt
        have hS := fun h => getC_found hlt HF.out h
        have hN := fun h => getC_step hlt HF.out h
        generalize xs[k] = x at *
        obtain ⟨x1, x0, x2, x3, x4, x5⟩ := x
        simp only at c0 c1 c2 c3 c4 c5 hS hN
        by_cases he : x1 = key
        · have HS := Lib.hid (hS he)
          have e1 : (x1 == key) = true := by simpa using he
          clear he hS hN
          go_wp2
          exact bodyPost_ret (v := .tuple #[cv ⟨x1, x0, x2, x3, x4, x5⟩, .bool true]) (by simp [results, Try.results42, go_sem]) rfl ⟨by rw [getCV_some HS.out], (Below.refl _ _).alloc (Nat.le_refl _) _⟩
        · have HN := Lib.hid (hN he)
          have e1 : (x1 == key) = false := by simpa using he
          clear he hS hN
          go_wp2
          go_round
          case rel => exact ⟨k + 1, by omega, by go_num, HN⟩
          case measure => simp [intOf]; omega
      · obtain rfl : k = xs.length := by omega
        have HN := Lib.hid (getC_end HF.out)
        go_wp2
        exact bodyPost_ret (v := .tuple #[cv noChg, .bool false]) (by simp [results, Try.results42, go_sem]) rfl ⟨by rw [getCV_none HN.out], (Below.refl _ _).alloc (Nat.le_refl _) _⟩
  · obtain rfl : xs = [] := List.eq_nil_of_length_eq_zero (by omega)
    clear hv hl h0
    have hB := (Below.refl w.heap.size w).alloc (Nat.le_refl _) (.cells (cca noChg) 49)
    go_enter Try.func42, Try.ntmps42
    go_wp2
    refine wp_loop_rounds 1 ?_
    rw [rounds_succ]
    go_wp2
    exact bodyPost_ret (v := .tuple #[cv noChg, .bool false]) (by simp [results, Try.results42, go_sem]) rfl ⟨by rw [getCV_none rfl], (Below.refl _ _).alloc (Nat.le_refl _) _⟩
end Go.Proofs.Ythcakinllcffoaa

/- C16: rows of rising keys are told by what they have of each key -/
namespace Go.Proofs.Ythcakinllcffoaa
open Go.RowKit
set_option linter.unusedVariables false

theorem ext_gen {α : Type} (key : α → Int) : ∀ xs ys : List α, xs.Pairwise (fun a b => key a < key b) → ys.Pairwise (fun a b => key a < key b) → (∀ k, xs.find? (fun c => key c == k) = ys.find? (fun c => key c == k)) → xs = ys
  | [], [], _, _, _ => rfl
  | [], y :: s, _, _, h => by have := h (key y); simp at this
  | x :: r, [], _, _, h => by have := h (key x); simp at this
  | x :: r, y :: s, h1, h2, h => by
    obtain ⟨a1, a2⟩ := List.pairwise_cons.1 h1
    obtain ⟨b1, b2⟩ := List.pairwise_cons.1 h2
    have no : ∀ (l : List α) (k : Int), (∀ a ∈ l, k < key a) → l.find? (fun c => key c == k) = none := fun l k hl => by
      rw [List.find?_eq_none]
      intro a ha
      have := hl a ha
      simp
      omega
    have hx := h (key x)
    have hy := h (key y)
    simp only [List.find?_cons, beq_self_eq_true] at hx hy
    have hk : key x = key y := by
      by_cases q : key x = key y
      · exact q
      exfalso
      rcases Int.lt_or_gt_of_ne q with q | q
      · rw [show (key y == key x) = false by simp; omega, no s (key x) (fun a ha => by have := b1 a ha; omega)] at hx
        cases hx
      · rw [show (key x == key y) = false by simp; omega, no r (key y) (fun a ha => by have := a1 a ha; omega)] at hy
        cases hy
    rw [show (key y == key x) = true by simp [hk]] at hx
    injection hx with hx
    subst hx
    refine congrArg _ (ext_gen key r s a2 b2 fun k => ?_)
    have hk := h k
    simp only [List.find?_cons] at hk
    by_cases q : key x = k
    · subst q
      rw [no r _ a1, no s _ b1]
    · rw [show (key x == k) = false by simpa using q] at hk
      exact hk
theorem extC {xs ys : List Chg} (h1 : RiseC xs) (h2 : RiseC ys) (h : ∀ k, getC xs k = getC ys k) : xs = ys := ext_gen Chg.key xs ys h1 h2 h
theorem extA {xs ys : List Att} (h1 : Rise xs) (h2 : Rise ys) (h : ∀ k, getA xs k = getA ys k) : xs = ys := ext_gen Att.key xs ys h1 h2 h

theorem getC_nil (k : Int) : getC [] k = none := rfl
theorem getC_cons (x : Chg) (r : List Chg) (k : Int) : getC (x :: r) k = if x.key = k then some x else getC r k := by
  unfold getC
  rw [List.find?_cons]
  by_cases h : x.key = k
  · simp [h]
  · rw [if_neg h, show (x.key == k) = false by simpa using h]
theorem getC_no {l : List Chg} {k : Int} (h : ∀ c ∈ l, c.key ≠ k) : getC l k = none := by
  unfold getC
  rw [List.find?_eq_none]
  intro c hc
  simpa using h c hc
theorem getC_key {l : List Chg} {k : Int} {c : Chg} (h : getC l k = some c) : c ∈ l ∧ c.key = k := by
  unfold getC at h
  exact ⟨List.mem_of_find?_eq_some h, by simpa using List.find?_some h⟩
theorem getC_in : ∀ {l : List Chg} {c : Chg}, RiseC l → c ∈ l → getC l c.key = some c
  | x :: r, c, hr, hc => by
    obtain ⟨h1, h2⟩ := List.pairwise_cons.1 hr
    rw [getC_cons]
    rcases List.mem_cons.1 hc with rfl | hc
    · simp
    · rw [if_neg (by have := h1 c hc; omega)]
      exact getC_in h2 hc
theorem getC_app (l r : List Chg) (k : Int) : getC (l ++ r) k = (getC l k).or (getC r k) := by unfold getC; rw [List.find?_append]

/-- What the closures put is of the key that they are told. -/
structure Puts (f : Option Chg × Option Chg → List Chg) : Prop where
  none : f (none, none) = []
  one : ∀ p, (f p).length ≤ 1
  key : ∀ a b k, (∀ x, a = some x → x.key = k) → (∀ y, b = some y → y.key = k) → ∀ c ∈ f (a, b), c.key = k
theorem puts_C : Puts putC := by
  refine ⟨rfl, putC_one, fun a b k ha hb c hc => ?_⟩
  rcases a with _ | x <;> rcases b with _ | y <;> simp [putC] at hc <;> subst hc
  · exact hb _ rfl
  · exact ha _ rfl
  · exact hb _ rfl
theorem puts_D : Puts putD := by
  refine ⟨rfl, putD_one, fun a b k ha hb c hc => ?_⟩
  rcases a with _ | x <;> rcases b with _ | y <;> simp [putD] at hc
  · subst hc; exact hb _ rfl
  · subst hc; exact ha x rfl
  · rw [hc.2]; exact hb _ rfl

/-- One key's changes ahead of those of greater keys. -/
theorem block_get {B rest : List Chg} {k0 : Int} (hB : B.length ≤ 1) (hk : ∀ c ∈ B, c.key = k0) (hr : RiseC rest) (hg : ∀ c ∈ rest, k0 < c.key) :
    RiseC (B ++ rest) ∧ ∀ k, getC (B ++ rest) k = if k = k0 then B.head? else getC rest k := by
  match B, hB with
  | [], _ =>
    refine ⟨hr, fun k => ?_⟩
    by_cases h : k = k0
    · subst h
      rw [if_pos rfl]
      exact getC_no fun c hc => by have := hg c hc; omega
    · rw [if_neg h]; rfl
  | [x], _ =>
    have hx := hk x (by simp)
    refine ⟨List.pairwise_cons.2 ⟨fun c hc => by have := hg c hc; omega, hr⟩, fun k => ?_⟩
    show getC (x :: rest) k = _
    rw [getC_cons, hx]
    by_cases h : k = k0
    · subst h; simp
    · rw [if_neg (fun e => h e.symm), if_neg h]
theorem rise_gt {x : Chg} {l : List Chg} (h : RiseC (x :: l)) : RiseC l ∧ ∀ c ∈ l, x.key < c.key := by
  obtain ⟨h1, h2⟩ := List.pairwise_cons.1 h
  exact ⟨h2, h1⟩
/-- What is told of two rising rows, put together: of each key just what is put of what both have of it. -/
theorem sbs_get {f : Option Chg × Option Chg → List Chg} (hf : Puts f) : ∀ (n : Nat) (l r : List Chg), l.length + r.length ≤ n → RiseC l → RiseC r →
    RiseC ((sbs l r).flatMap f) ∧ ∀ k, getC ((sbs l r).flatMap f) k = (f (getC l k, getC r k)).head? := by
  intro n
  induction n with
  | zero =>
    intro l r h _ _
    obtain rfl : l = [] := List.eq_nil_of_length_eq_zero (by omega)
    obtain rfl : r = [] := List.eq_nil_of_length_eq_zero (by omega)
    rw [sbs_nn]
    exact ⟨List.Pairwise.nil, fun k => by rw [getC_nil, hf.none]; rfl⟩
  | succ n ih =>
    have gt_of : ∀ {l r : List Chg} {k0 : Int}, RiseC ((sbs l r).flatMap f) → (∀ k, getC ((sbs l r).flatMap f) k = (f (getC l k, getC r k)).head?) → (∀ c ∈ l, k0 < c.key) → (∀ c ∈ r, k0 < c.key) → ∀ c ∈ (sbs l r).flatMap f, k0 < c.key := by
      intro l r k0 hr hg h1 h2 c hc
      have h := hg c.key
      rw [getC_in hr hc] at h
      cases ha : getC l c.key with
      | some x => have := h1 x (getC_key ha).1; rw [(getC_key ha).2] at this; exact this
      | none =>
        cases hb : getC r c.key with
        | some y => have := h2 y (getC_key hb).1; rw [(getC_key hb).2] at this; exact this
        | none => rw [ha, hb, hf.none] at h; cases h
    intro l r hn hl hr
    match l, r with
    | [], [] =>
      rw [sbs_nn]
      exact ⟨List.Pairwise.nil, fun k => by rw [getC_nil, hf.none]; rfl⟩
    | x :: l, [] =>
      obtain ⟨hl2, hx⟩ := rise_gt hl
      obtain ⟨i1, i2⟩ := ih l [] (by simp at hn ⊢; omega) hl2 hr
      rw [sbs_cn, List.flatMap_cons]
      obtain ⟨b1, b2⟩ := block_get (hf.one _) (hf.key (some x) none x.key (fun z hz => by injection hz with hz; rw [hz]) (fun z hz => by cases hz)) i1 (gt_of i1 i2 hx (by simp))
      refine ⟨b1, fun k => ?_⟩
      rw [b2, getC_cons, i2]
      by_cases h : k = x.key
      · subst h; simp [getC_nil]
      · rw [if_neg h, if_neg (fun e => h e.symm)]
    | [], y :: r =>
      obtain ⟨hr2, hy⟩ := rise_gt hr
      obtain ⟨i1, i2⟩ := ih [] r (by simp at hn ⊢; omega) hl hr2
      rw [sbs_nc, List.flatMap_cons]
      obtain ⟨b1, b2⟩ := block_get (hf.one _) (hf.key none (some y) y.key (fun z hz => by cases hz) (fun z hz => by injection hz with hz; rw [hz])) i1 (gt_of i1 i2 (by simp) hy)
      refine ⟨b1, fun k => ?_⟩
      rw [b2, getC_cons, i2]
      by_cases h : k = y.key
      · subst h; simp [getC_nil]
      · rw [if_neg h, if_neg (fun e => h e.symm)]
    | x :: l, y :: r =>
      obtain ⟨hl2, hx⟩ := rise_gt hl
      obtain ⟨hr2, hy⟩ := rise_gt hr
      by_cases q1 : x.key < y.key
      · have hyx : ∀ c ∈ y :: r, x.key < c.key := fun c hc => by
          rcases List.mem_cons.1 hc with rfl | hc
          · exact q1
          · have := hy c hc; omega
        obtain ⟨i1, i2⟩ := ih l (y :: r) (by simp at hn ⊢; omega) hl2 hr
        rw [sbs_lt q1, List.flatMap_cons]
        obtain ⟨b1, b2⟩ := block_get (hf.one _) (hf.key (some x) none x.key (fun z hz => by injection hz with hz; rw [hz]) (fun z hz => by cases hz)) i1 (gt_of i1 i2 hx hyx)
        refine ⟨b1, fun k => ?_⟩
        rw [b2, getC_cons x l, i2]
        by_cases h : k = x.key
        · subst h
          rw [if_pos rfl, if_pos rfl, getC_no (fun c hc => by have := hyx c hc; omega)]
        · rw [if_neg h, if_neg (fun e => h e.symm)]
      · by_cases q2 : y.key < x.key
        · have hxy : ∀ c ∈ x :: l, y.key < c.key := fun c hc => by
            rcases List.mem_cons.1 hc with rfl | hc
            · exact q2
            · have := hx c hc; omega
          obtain ⟨i1, i2⟩ := ih (x :: l) r (by simp at hn ⊢; omega) hl hr2
          rw [sbs_gt q2, List.flatMap_cons]
          obtain ⟨b1, b2⟩ := block_get (hf.one _) (hf.key none (some y) y.key (fun z hz => by cases hz) (fun z hz => by injection hz with hz; rw [hz])) i1 (gt_of i1 i2 hxy hy)
          refine ⟨b1, fun k => ?_⟩
          rw [b2, getC_cons y r, i2]
          by_cases h : k = y.key
          · subst h
            rw [if_pos rfl, if_pos rfl, getC_no (fun c hc => by have := hxy c hc; omega)]
          · rw [if_neg h, if_neg (fun e => h e.symm)]
        · have q3 : y.key = x.key := by omega
          obtain ⟨i1, i2⟩ := ih l r (by simp at hn ⊢; omega) hl2 hr2
          rw [sbs_eq q1 q2, List.flatMap_cons]
          obtain ⟨b1, b2⟩ := block_get (hf.one _) (hf.key (some x) (some y) x.key (fun z hz => by injection hz with hz; rw [hz]) (fun z hz => by injection hz with hz; rw [← hz, q3])) i1 (gt_of i1 i2 hx (fun c hc => by have := hy c hc; omega))
          refine ⟨b1, fun k => ?_⟩
          rw [b2, getC_cons x l, getC_cons y r, i2, q3]
          by_cases h : k = x.key
          · subst h; simp
          · rw [if_neg h, if_neg (fun e => h e.symm), if_neg (fun e => h e.symm)]

theorem comp_rise {p q : List Chg} (hp : RiseC p) (hq : RiseC q) : RiseC (comp p q) := (sbs_get puts_C _ p q (Nat.le_refl _) hp hq).1
theorem comp_get {p q : List Chg} (hp : RiseC p) (hq : RiseC q) (k : Int) : getC (comp p q) k = (getC q k).or (getC p k) := by
  have := (sbs_get puts_C _ p q (Nat.le_refl _) hp hq).2 k
  unfold comp
  rw [this]
  cases getC p k <;> cases getC q k <;> rfl
theorem chs_rise {a : List Att} (h : Rise a) : RiseC (chs a) := by
  unfold chs RiseC
  rw [List.pairwise_map]
  exact h
theorem chs_get (a : List Att) (k : Int) : getC (chs a) k = (getA a k).map toC := by
  unfold getC getA chs
  rw [List.find?_map]
  rfl
theorem diff_rise {a b : List Att} (ha : Rise a) (hb : Rise b) : RiseC (diff6 a b) := (sbs_get puts_D _ _ _ (Nat.le_refl _) (chs_rise ha) (chs_rise hb)).1
theorem toC_inj {x y : Att} : toC x = toC y ↔ x = y := by
  obtain ⟨a1, a2, a3, a4, a5⟩ := x
  obtain ⟨b1, b2, b3, b4, b5⟩ := y
  simp [toC]
/-- What differs of a key. -/
def dk : Option Att → Option Att → Option Chg
  | some x, none => some (goneC x.key)
  | none, some y => some (toC y)
  | some x, some y => if x = y then none else some (toC y)
  | none, none => none
theorem diff_get {a b : List Att} (ha : Rise a) (hb : Rise b) (k : Int) : getC (diff6 a b) k = dk (getA a k) (getA b k) := by
  have := (sbs_get puts_D _ _ _ (Nat.le_refl _) (chs_rise ha) (chs_rise hb)).2 k
  unfold diff6 dif
  rw [this, chs_get, chs_get]
  cases getA a k with
  | none => cases getA b k <;> rfl
  | some x =>
    cases getA b k with
    | none => rfl
    | some y =>
      simp only [Option.map_some, putD, dk]
      by_cases h : x = y
      · subst h; simp
      · rw [if_neg h, if_neg (fun e => h (toC_inj.1 e))]; rfl
/-- What a change makes of a key. -/
def ck : Option Chg → Option Att → Option Att
  | some c, _ => if c.g then none else some (toA c)
  | none, x => x
theorem ats_get {p : List Chg} (hp : RiseC p) (k : Int) : getA (ats p) k = ck (getC p k) none := by
  induction p with
  | nil => rfl
  | cons x r ih =>
    obtain ⟨hr, hx⟩ := rise_gt hp
    have e : ats (x :: r) = if x.g then ats r else toA x :: ats r := by unfold ats; cases h : x.g <;> simp [h]
    have hn : x.key = k → getC r k = none := fun h => getC_no fun c hc => by have := hx c hc; omega
    rw [e, getC_cons]
    cases h : x.g
    · simp only [Bool.false_eq_true, if_false]
      unfold getA
      rw [List.find?_cons]
      by_cases hk : x.key = k
      · simp [hk, ck, h]
      · rw [if_neg hk, ← ih hr, show ((toA x).key == k) = false by simpa using hk]
        rfl
    · simp only [if_true]
      rw [ih hr]
      by_cases hk : x.key = k
      · rw [if_pos hk, hn hk]; simp [ck, h]
      · rw [if_neg hk]
theorem app_rise {a : List Att} {p : List Chg} (ha : Rise a) (hp : RiseC p) : Rise (app a p) := ats_rise (comp_rise (chs_rise ha) hp)
theorem app_get {a : List Att} {p : List Chg} (ha : Rise a) (hp : RiseC p) (k : Int) : getA (app a p) k = ck (getC p k) (getA a k) := by
  unfold app
  rw [ats_get (comp_rise (chs_rise ha) hp), comp_get (chs_rise ha) hp, chs_get]
  cases getC p k with
  | some c => rfl
  | none =>
    cases getA a k with
    | none => rfl
    | some x => rfl
theorem getA_key {l : List Att} {k : Int} {c : Att} (h : getA l k = some c) : c ∈ l ∧ c.key = k := by
  unfold getA at h
  exact ⟨List.mem_of_find?_eq_some h, by simpa using List.find?_some h⟩

/-! What follows -/
theorem app_app {a : List Att} {p q : List Chg} (ha : Rise a) (hp : RiseC p) (hq : RiseC q) : app (app a p) q = app a (comp p q) := by
  refine extA (app_rise (app_rise ha hp) hq) (app_rise ha (comp_rise hp hq)) fun k => ?_
  rw [app_get (app_rise ha hp) hq, app_get ha hp, app_get ha (comp_rise hp hq), comp_get hp hq]
  cases getC q k <;> rfl
theorem app_nil {a : List Att} (ha : Rise a) : app a [] = a := by
  refine extA (app_rise ha List.Pairwise.nil) ha fun k => ?_
  rw [app_get ha List.Pairwise.nil]; rfl
theorem comp_nil {p : List Chg} (hp : RiseC p) : comp p [] = p := by
  refine extC (comp_rise hp List.Pairwise.nil) hp fun k => ?_
  rw [comp_get hp List.Pairwise.nil]; rfl
theorem nil_comp {p : List Chg} (hp : RiseC p) : comp [] p = p := by
  refine extC (comp_rise List.Pairwise.nil hp) hp fun k => ?_
  rw [comp_get List.Pairwise.nil hp, getC_nil]; cases getC p k <;> rfl
end Go.Proofs.Ythcakinllcffoaa

/- C13: known -/
namespace Go.Proofs.Ythcakinllcffoaa
open Go.RowKit
set_option linter.unusedVariables false

@[reducible] def e0 : ByteArray := ⟨#[]⟩
end Go.Proofs.Ythcakinllcffoaa

/- C15: the contracts in the form in which the laws take them -/
namespace Go.Proofs.Ythcakinllcffoaa
open Go.RowKit
set_option linter.unusedVariables false

theorem rows_two {w : World} {x y : Option Addr × Nat × Nat} {a b : List Att} (h1 : Arow w (slV x) a) (h2 : Arow w (slV y) b) : Rows5 w [x, y] [a, b] :=
  ⟨rfl, fun j h1' h2' => by
    match j, h1' with
    | 0, _ => exact h1
    | 1, _ => exact h2⟩
theorem rows_one {w : World} {x : Option Addr × Nat × Nat} {a : List Att} (h1 : Arow w (slV x) a) : Rows5 w [x] [a] :=
  ⟨rfl, fun j h1' h2' => by
    match j, h1' with
    | 0, _ => exact h1⟩
theorem riseA_h (a : List Att) (b : Bool) (hb : decide (Rise a) = b) (v : Value) (W : World) (hv : Arow W v a) :
    Calls Try.prog 12 #[v] W fun e w' => e = .returned (.bool b) ∧ Below W.heap.size W w' :=
  (rising_any5 v a W hv).mono fun e w' ⟨he, q, hw⟩ => ⟨by rw [he, hb], by rw [hw]; exact blw_drewN (Below.refl _ _) q⟩
theorem riseC_h (a : List Chg) (b : Bool) (hb : decide (RiseC a) = b) (v : Value) (W : World) (hv : Crow W v a) :
    Calls Try.prog 11 #[v] W fun e w' => e = .returned (.bool b) ∧ Below W.heap.size W w' :=
  (rising_any6 v a W hv).mono fun e w' ⟨he, q, hw⟩ => ⟨by rw [he, hb], by rw [hw]; exact blw_drewN (Below.refl _ _) q⟩
theorem sameA_h (a b : List Att) (h : a = b) (v1 v2 : Value) (W : World) (h1 : Arow W v1 a) (h2 : Arow W v2 b) :
    Calls Try.prog 20 #[v1, v2] W fun e w' => e = .returned (.bool true) ∧ Below W.heap.size W w' :=
  (rsame_any5 v1 v2 a b W h1 h2).mono fun e w' ⟨he, q, hw⟩ => ⟨by rw [he, decide_eq_true h], by rw [hw]; exact blw_drewN (Below.refl _ _) q⟩
theorem rsameC_h (a b : List Chg) (s : Bool) (h : decide (a = b) = s) (v1 v2 : Value) (W : World) (h1 : Crow W v1 a) (h2 : Crow W v2 b) :
    Calls Try.prog 19 #[v1, v2] W fun e w' => e = .returned (.bool s) ∧ Below W.heap.size W w' :=
  (rsame_any6 v1 v2 a b W h1 h2).mono fun e w' ⟨he, q, hw⟩ => ⟨by rw [he, h], by rw [hw]; exact blw_drewN (Below.refl _ _) q⟩
theorem app_h (a : List Att) (p : List Chg) (l : List Att) (h : app a p = l) (hl : a.length + p.length ≤ 1000000000) (v1 v2 : Value) (W : World) (h1 : Arow W v1 a) (h2 : Crow W v2 p) :
    Calls Try.prog 24 #[v1, v2] W fun e w' => ∃ u, e = .returned u ∧ Hid (Arow w' u l) ∧ Below W.heap.size W w' :=
  (apply_any v1 v2 a p W h1 h2 hl).mono fun e w' ⟨u, he, ho, hb⟩ => ⟨u, he, Lib.hid (by rw [← h]; exact Own5.row ho), hb⟩
theorem comp_h (a p l : List Chg) (h : comp a p = l) (hl : a.length + p.length ≤ 1000000000) (v1 v2 : Value) (W : World) (h1 : Crow W v1 a) (h2 : Crow W v2 p) :
    Calls Try.prog 31 #[v1, v2] W fun e w' => ∃ u, e = .returned u ∧ Hid (Crow w' u l) ∧ Below W.heap.size W w' :=
  (compose_any v1 v2 a p W h1 h2 (by omega)).mono fun e w' ⟨u, he, ho, hb⟩ => ⟨u, he, Lib.hid (by rw [← h]; exact own6_row ho), hb⟩
theorem diff_h (a b : List Att) (l : List Chg) (h : diff6 a b = l) (hl : a.length + b.length ≤ 1000000000) (v1 v2 : Value) (W : World) (h1 : Arow W v1 a) (h2 : Arow W v2 b) :
    Calls Try.prog 36 #[v1, v2] W fun e w' => ∃ u, e = .returned u ∧ Hid (Crow w' u l) ∧ Below W.heap.size W w' :=
  (diff_any v1 v2 a b W h1 h2 hl).mono fun e w' ⟨u, he, ho, hb⟩ => ⟨u, he, Lib.hid (by rw [← h]; exact own6_row ho), hb⟩
/-- The empty one, wherever it is told. -/
theorem crow_nil (W : World) : Crow W (.slice none 0 0) [] := Row.nil W
end Go.Proofs.Ythcakinllcffoaa

/- C21: the parts of a patch, as plain data; what may be -/
namespace Go.Proofs.Ythcakinllcffoaa
open Go.RowKit
set_option linter.unusedVariables false

theorem may6_zero {ks : List Key} {xs : List Chg} : may6 ks xs = 0 ↔ wf6 xs = true ∧ okV (ats xs) = true ∧ okF5 ks (ats xs) = true ∧ xs.all (isIn ks) = true := by
  unfold may6
  cases h1 : wf6 xs <;> cases h2 : okV (ats xs) <;> cases h3 : okF5 ks (ats xs) <;> cases h4 : xs.all (isIn ks) <;> simp
theorem app_twice {a : List Att} {p : List Chg} (ha : Rise a) (hp : RiseC p) : app (app a p) p = app a p := by
  refine extA (app_rise (app_rise ha hp) hp) (app_rise ha hp) fun k => ?_
  rw [app_get (app_rise ha hp) hp, app_get ha hp]
  cases getC p k <;> rfl
theorem getA_in : ∀ {l : List Att} {c : Att}, Rise l → c ∈ l → getA l c.key = some c
  | x :: r, c, hr, hc => by
    obtain ⟨h1, h2⟩ := List.pairwise_cons.1 hr
    unfold getA
    rw [List.find?_cons]
    rcases List.mem_cons.1 hc with rfl | hc
    · simp
    · rw [show (x.key == c.key) = false by have := h1 c hc; simp; omega]
      exact getA_in h2 hc
/-! What may be stays so -/
theorem in_few {ks : List Key} {xs : List Chg} (hr : RiseC xs) (hf : xs.all (isIn ks) = true) : xs.length ≤ ks.length := by
  have := nodup_le (xs.map (·.key)) (ks.map (·.id)) ?_ ?_
  · simpa using this
  · refine (List.pairwise_map.2 ?_)
    exact hr.imp fun h => by omega
  · intro x hx
    obtain ⟨a, ha, rfl⟩ := List.mem_map.1 hx
    have hi := List.all_eq_true.1 hf a ha
    unfold isIn at hi
    obtain ⟨k, hk⟩ := Option.isSome_iff_exists.1 hi
    exact List.mem_map.2 ⟨k, (fnd_some hk).1, (fnd_some hk).2⟩
/-- A change that may be one. -/
def okC (ks : List Key) (c : Chg) : Bool := isIn ks c && (if c.g then zv c else fitsB ks c.key c.k c.n c.f c.s)
theorem may6_iff {ks : List Key} (hk : ks.length ≤ 64) {xs : List Chg} : may6 ks xs = 0 ↔ RiseC xs ∧ ∀ c ∈ xs, okC ks c = true := by
  rw [may6_zero]
  constructor
  · rintro ⟨h1, h2, h3, h4⟩
    obtain ⟨hr, hl, hg⟩ := wf6_parts h1
    refine ⟨hr, fun c hc => ?_⟩
    unfold okC
    rw [List.all_eq_true.1 h4 c hc, Bool.true_and]
    have hgc := List.all_eq_true.1 hg c hc
    unfold gOk at hgc
    cases h : c.g
    · have : toA c ∈ ats xs := List.mem_map.2 ⟨c, List.mem_filter.2 ⟨hc, by simp [h]⟩, rfl⟩
      simpa using okF_mem.1 h3 _ this
    · simpa [h] using hgc
  · rintro ⟨hr, h⟩
    have hin : xs.all (isIn ks) = true := List.all_eq_true.2 fun c hc => by have := h c hc; unfold okC at this; rw [Bool.and_eq_true] at this; exact this.1
    have hl := in_few hr hin
    have hg : xs.all gOk = true := List.all_eq_true.2 fun c hc => by
      have := h c hc
      unfold okC at this
      rw [Bool.and_eq_true] at this
      unfold gOk
      cases hh : c.g
      · rfl
      · simpa [hh] using this.2
    have hf : okF5 ks (ats xs) = true := okF_mem.2 fun a ha => by
      obtain ⟨c, hc, hcg, rfl⟩ := ats_sub a ha
      have := h c hc
      unfold okC at this
      rw [Bool.and_eq_true] at this
      simpa [hcg] using this.2
    exact ⟨wf6_good hr (by omega) hg, okV_mem.2 fun a ha => (fits_in (okF_mem.1 hf a ha)).2, hf, hin⟩
theorem may6_get {ks : List Key} (hk : ks.length ≤ 64) {xs : List Chg} (hr : RiseC xs) (h : ∀ k c, getC xs k = some c → okC ks c = true) : may6 ks xs = 0 :=
  (may6_iff hk).2 ⟨hr, fun c hc => h c.key c (getC_in hr hc)⟩
theorem ok_of {ks : List Key} (hk : ks.length ≤ 64) {xs : List Chg} (h : may6 ks xs = 0) : RiseC xs ∧ ∀ k c, getC xs k = some c → okC ks c = true :=
  ⟨((may6_iff hk).1 h).1, fun k c hc => ((may6_iff hk).1 h).2 c (getC_key hc).1⟩
theorem okC_gone {ks : List Key} {x : Att} (h : fitsB ks x.key x.k x.n x.f x.s = true) : okC ks (goneC x.key) = true := by
  unfold okC isIn
  cases hf : fnd ks x.key with
  | none => rw [fitsB_none hf] at h; cases h
  | some k => simp [zv]
end Go.Proofs.Ythcakinllcffoaa

/- A18: attributes, and slices of them, that came in -/
namespace Go.Proofs.Ythcakinllcffoaa
open Go.RowKit Go.ChangeShapes Go.WideShapes Go.Deep
set_option linter.unusedVariables false

section
variable {H : Type} {enc : TypeId × Value → H} {w : World} {base : Nat} {spare : Nat → Bool} {held : Bool}

theorem att_fields : Try.prog.underlying 64 = some (.struct (Try.prog.fieldsOf 64)) := by kernel_rfl
theorem att_cells : Try.prog.cellsOf 64 = 5 := by kernel_rfl
theorem att_types : (Try.prog.fieldsOf 64).map (fun f => (f.type, f.offset)) = #[(3, 0), (47, 1)] := by kernel_rfl
theorem att_size : (Try.prog.fieldsOf 64).size = 2 := by kernel_rfl
theorem int_cells5 : Try.prog.cellsOf 3 = 1 := by kernel_rfl
theorem value_cells5 : Try.prog.cellsOf 47 = 4 := by kernel_rfl
theorem value_fields5 : Try.prog.underlying 47 = some (.struct (Try.prog.fieldsOf 47)) := by kernel_rfl
theorem value_one5 : oneCellFields Try.prog (Try.prog.fieldsOf 47) = true := by kernel_rfl
theorem value_types5 : (Try.prog.fieldsOf 47).map (·.type) = #[5, 2, 45, 9] := by kernel_rfl
theorem value_size5 : (Try.prog.fieldsOf 47).size = 4 := by kernel_rfl

end
end Go.Proofs.Ythcakinllcffoaa

/- C14: changes and attributes that came in, and what they weigh -/
namespace Go.Proofs.Ythcakinllcffoaa
open Go.RowKit Go.ChangeShapes Go.WideShapes Go.Deep
set_option linter.unusedVariables false

section
variable {H : Type} {enc : TypeId × Value → H} {w : World} {base : Nat} {spare : Nat → Bool} {held : Bool}

/-- The datum of a change, of an attribute. -/
def vD (k n f : Int) (s : ByteArray) : DataW H := .agg [.lit (.int .u8 k), .lit (.int .i64 n), .lit (.int .u64 f), .lit (.string s.data.toList)]
def chD (a : Chg) : DataW H := .agg [.lit (.int .i64 a.key), .lit (.bool a.g), vD a.k a.n a.f a.s]
def atD (a : Att) : DataW H := .agg [.lit (.int .i64 a.key), vD a.k a.n a.f a.s]

theorem ch_fields : Try.prog.underlying 49 = some (.struct (Try.prog.fieldsOf 49)) := by kernel_rfl
theorem ch_cells : Try.prog.cellsOf 49 = 6 := by kernel_rfl
theorem ch_types : (Try.prog.fieldsOf 49).map (fun f => (f.type, f.offset)) = #[(3, 0), (4, 1), (47, 2)] := by kernel_rfl
theorem ch_size : (Try.prog.fieldsOf 49).size = 3 := by kernel_rfl
theorem bool_cells6 : Try.prog.cellsOf 4 = 1 := by kernel_rfl
theorem ch_bytes : Try.prog.bytesOf 49 = 56 := by kernel_rfl
set_option maxRecDepth 100000 in
theorem open_val6 {n : Nat} {cs : List Value} {y : DataW H × List MemPlace} (h : DataW.trod enc Try.prog w base spare held n 47 cs = some y) :
    ∃ (k n' f : Int) (s : ByteArray), (Lit.int .u8 k).wf = true ∧ (Lit.int .i64 n').wf = true ∧ (Lit.int .u64 f).wf = true ∧ s.size ≤ maxLen ∧ cs = [.int .u8 k, .int .i64 n', .int .u64 f, .string s] ∧ y.1 = vD k n' f s := by
  obtain ⟨ys, m, -, hy, hlen, hys, hf⟩ := DataW.trod_struct value_fields5 h
  rw [value_cells5] at hlen
  rw [value_size5] at hys
  have hj : ∀ (j : Nat) (t : TypeId), (#[5, 2, 45, 9] : Array TypeId)[j]? = some t → DataW.trod enc Try.prog w base spare held m t ((cs.drop j).take 1) = ys[j]? := by
    intro j t hjt
    rw [← value_types5, Array.getElem?_map, Option.map_eq_some_iff] at hjt
    obtain ⟨f, hfj, rfl⟩ := hjt
    obtain ⟨ho, hk⟩ := hone_of value_one5 j f hfj
    have := hf j f hfj
    rwa [ho, hk] at this
  clear hf h
  match cs, hlen with
  | [c0, c1, c2, c3], _ =>
    match ys, hys with
    | [y0, y1, y2, y3], _ =>
      have h0 : DataW.trod enc Try.prog w base spare held m 5 [c0] = some y0 := hj 0 _ rfl
      have h1 : DataW.trod enc Try.prog w base spare held m 2 [c1] = some y1 := hj 1 _ rfl
      have h2 : DataW.trod enc Try.prog w base spare held m 45 [c2] = some y2 := hj 2 _ rfl
      have h3 : DataW.trod enc Try.prog w base spare held m 9 [c3] = some y3 := hj 3 _ rfl
      obtain ⟨a0, e0, rfl, w0⟩ := DataW.trod_int Try.underlying5 h0
      obtain ⟨a1, e1, rfl, w1⟩ := DataW.trod_int Try.underlying2 h1
      obtain ⟨a2, e2, rfl, w2⟩ := DataW.trod_int Try.underlying45 h2
      obtain ⟨a3, e3, rfl, w3⟩ := DataW.trod_string Try.underlying9 h3
      simp only [List.cons.injEq, and_true] at e0 e1 e2 e3
      subst e0 e1 e2 e3
      exact ⟨a0, a1, a2, a3, w0, w1, w2, w3, rfl, by rw [hy]; rfl⟩

set_option maxRecDepth 100000 in
theorem open_att6 {n : Nat} {cs : List Value} {y : DataW H × List MemPlace} (h : DataW.trod enc Try.prog w base spare held n 64 cs = some y) : ∃ a : Att, AttW a ∧ cs = ac a ∧ y.1 = atD a := by
  obtain ⟨ys, m, -, hy, hlen, hys, hf⟩ := DataW.trod_struct att_fields h
  rw [att_cells] at hlen
  rw [att_size] at hys
  have hj : ∀ (j : Nat) (t : TypeId) (o : Nat), (#[(3, 0), (47, 1)] : Array (TypeId × Nat))[j]? = some (t, o) → DataW.trod enc Try.prog w base spare held m t ((cs.drop o).take (Try.prog.cellsOf t)) = ys[j]? := by
    intro j t o hjt
    rw [← att_types, Array.getElem?_map, Option.map_eq_some_iff] at hjt
    obtain ⟨f, hfj, e⟩ := hjt
    simp only [Prod.mk.injEq] at e
    obtain ⟨rfl, rfl⟩ := e
    exact hf j f hfj
  clear hf h
  match cs, hlen with
  | [c0, c1, c2, c3, c4], _ =>
    match ys, hys with
    | [y0, y1], _ =>
      have h0 := hj 0 3 0 rfl
      have h1 := hj 1 47 1 rfl
      rw [int_cells5] at h0
      rw [value_cells5] at h1
      have h0' : DataW.trod enc Try.prog w base spare held m 3 [c0] = some y0 := h0
      have h1' : DataW.trod enc Try.prog w base spare held m 47 [c1, c2, c3, c4] = some y1 := h1
      obtain ⟨a0, e0, rfl, w0⟩ := DataW.trod_int Try.underlying3 h0'
      obtain ⟨k, n', f, s, w1, w2, w3, w4, e1, hd⟩ := open_val6 h1'
      simp only [List.cons.injEq, and_true] at e0 e1
      obtain ⟨rfl, rfl, rfl, rfl⟩ := e1
      subst e0
      exact ⟨⟨a0, k, n', f, s⟩, ⟨w0, w1, w2, w3, w4⟩, rfl, by rw [hy]; simp [atD, hd]⟩

set_option maxRecDepth 100000 in
theorem open_chg6 {n : Nat} {cs : List Value} {y : DataW H × List MemPlace} (h : DataW.trod enc Try.prog w base spare held n 49 cs = some y) : ∃ a : Chg, ChgW a ∧ cs = cc a ∧ y.1 = chD a := by
  obtain ⟨ys, m, -, hy, hlen, hys, hf⟩ := DataW.trod_struct ch_fields h
  rw [ch_cells] at hlen
  rw [ch_size] at hys
  have hj : ∀ (j : Nat) (t : TypeId) (o : Nat), (#[(3, 0), (4, 1), (47, 2)] : Array (TypeId × Nat))[j]? = some (t, o) → DataW.trod enc Try.prog w base spare held m t ((cs.drop o).take (Try.prog.cellsOf t)) = ys[j]? := by
    intro j t o hjt
    rw [← ch_types, Array.getElem?_map, Option.map_eq_some_iff] at hjt
    obtain ⟨f, hfj, e⟩ := hjt
    simp only [Prod.mk.injEq] at e
    obtain ⟨rfl, rfl⟩ := e
    exact hf j f hfj
  clear hf h
  match cs, hlen with
  | [c0, cb, c1, c2, c3, c4], _ =>
    match ys, hys with
    | [y0, yb, y1], _ =>
      have h0 := hj 0 3 0 rfl
      have hb := hj 1 4 1 rfl
      have h1 := hj 2 47 2 rfl
      rw [int_cells5] at h0
      rw [bool_cells6] at hb
      rw [value_cells5] at h1
      have h0' : DataW.trod enc Try.prog w base spare held m 3 [c0] = some y0 := h0
      have hb' : DataW.trod enc Try.prog w base spare held m 4 [cb] = some yb := hb
      have h1' : DataW.trod enc Try.prog w base spare held m 47 [c1, c2, c3, c4] = some y1 := h1
      obtain ⟨a0, e0, rfl, w0⟩ := DataW.trod_int Try.underlying3 h0'
      obtain ⟨ab, eb, rfl⟩ := DataW.trod_bool Try.underlying4 hb'
      obtain ⟨k, n', f, s, w1, w2, w3, w4, e1, hd⟩ := open_val6 h1'
      simp only [List.cons.injEq, and_true] at e0 eb e1
      obtain ⟨rfl, rfl, rfl, rfl⟩ := e1
      subst e0 eb
      exact ⟨⟨a0, ab, k, n', f, s⟩, ⟨w0, w1, w2, w3, w4⟩, rfl, by rw [hy]; simp [chD, hd]⟩

set_option maxRecDepth 100000 in
/-- A slice that came in, of whatever lies as C says. -/
theorem open_rows {α : Type} (C : Cel α) (W : α → Prop) (D : α → DataW H) {t e : TypeId} (ht : Try.prog.underlying t = some (.slice e)) (hcell : Try.prog.cellsOf e = C.m)
    (hop : ∀ {n : Nat} {cs : List Value} {y : DataW H × List MemPlace}, DataW.trod enc Try.prog w base spare held n e cs = some y → ∃ a : α, W a ∧ cs = C.c a ∧ y.1 = D a)
    {n : Nat} {v : Value} {x : DataW H × List MemPlace} (h : DataW.trod enc Try.prog w base spare held n t [v] = some x) :
    ∃ xs : List α, Row C w v xs ∧ (∀ a ∈ xs, W a) ∧ (x.1 = .nil ∧ xs = [] ∨ ∃ sp, x.1 = .slice (xs.map D) sp) := by
  rcases open_slice ht h with ⟨hcs, hx⟩ | ⟨a, len, cap, m, n', Dt, Pl, hcs, -, hl, hm, hmm, hx, hi⟩
  · injection hcs with hv _
    subst hv
    exact ⟨[], Row.nil w, by simp, .inl ⟨by rw [hx], rfl⟩⟩
  · injection hcs with hv _
    subst hv
    have hlm : len ≤ m := by rw [hmm]; split <;> omega
    have hex : ∀ i, i < len → ∃ k : α, W k ∧ (∀ j u, (C.c k)[j]? = some u → w.cell? (a.add (i * C.m + j)) = some u) ∧ Dt i = D k := by
      intro i hil
      obtain ⟨cs', hc, ht⟩ := hi i (by omega)
      obtain ⟨k, hw, rfl, hd⟩ := hop ht
      rw [hcell] at hc
      obtain ⟨-, hcl, hat⟩ := World.cells?_some hc
      refine ⟨k, hw, fun j u hu => ?_, hd⟩
      have hj : j < C.m := by have := (List.getElem?_eq_some_iff.1 hu).1; rwa [C.len] at this
      have := hat j hj
      rw [hu, add_add] at this
      exact this
    have hex2 : ∀ i : Fin len, ∃ k : α, W k ∧ (∀ j u, (C.c k)[j]? = some u → w.cell? (a.add (i.1 * C.m + j)) = some u) ∧ Dt i.1 = D k := fun i => hex i.1 i.2
    obtain ⟨f, hf⟩ := Classical.axiomOfChoice hex2
    have hlen : (List.ofFn f).length = len := by simp
    refine ⟨List.ofFn f, ?_, fun k hk => ?_, .inr ⟨(List.range (m - len)).map fun j => Dt (len + j), ?_⟩⟩
    · by_cases h0 : len = 0
      · subst h0
        exact .inl ⟨some a, cap, rfl, by simp, hm, by simp⟩
      · obtain ⟨b, off, spot⟩ := a
        have hspot : spot = none := by
          have hp : 0 < (C.c (f ⟨0, by omega⟩)).length := by rw [C.len]; exact C.pos
          have := (hf ⟨0, by omega⟩).2.1 0 _ (List.getElem?_eq_getElem hp)
          simpa [Addr.add] using World.cell?_spot this
        subst hspot
        refine .inr ⟨b, off, cap, by rw [hlen], by omega, by omega, hm, fun j u hu => ?_⟩
        have hjl : j < len * C.m := by
          have := (List.getElem?_eq_some_iff.1 hu).1
          rwa [fl_len, hlen] at this
        have hd : j / C.m < len := Nat.div_lt_of_lt_mul (by rw [Nat.mul_comm]; exact hjl)
        have e1 : j / C.m * C.m + j % C.m = j := by rw [Nat.mul_comm]; exact Nat.div_add_mod j C.m
        have g := fl_get C (List.ofFn f) (j / C.m) (j % C.m) (by omega) (Nat.mod_lt _ C.pos)
        rw [e1, hu] at g
        have := (hf ⟨j / C.m, hd⟩).2.1 (j % C.m) u (by rw [g]; simp)
        rw [e1, Go.WideShapes.add_plain] at this
        exact this
    · obtain ⟨i, rfl⟩ := List.mem_ofFn.1 hk
      exact (hf i).1
    · rw [hx]
      show DataW.slice ((List.range len).map Dt) _ = DataW.slice _ _
      congr 1
      apply List.ext_getElem
      · simp
      · intro i h1 h2
        simp at h1
        simp [(hf ⟨i, h1⟩).2.2]

/-- What a slice of changes, of attributes, that came in is. -/
def InC (d : DataW H) (xs : List Chg) : Prop := d = .nil ∧ xs = [] ∨ ∃ sp, d = .slice (xs.map chD) sp
def InA (d : DataW H) (xs : List Att) : Prop := d = .nil ∧ xs = [] ∨ ∃ sp, d = .slice (xs.map atD) sp
set_option maxRecDepth 100000 in
theorem open_chs {n : Nat} {v : Value} {x : DataW H × List MemPlace} (h : DataW.trod enc Try.prog w base spare held n 23 [v] = some x) : ∃ xs, Crow w v xs ∧ (∀ a ∈ xs, ChgW a) ∧ InC x.1 xs :=
  open_rows chC ChgW chD Try.underlying23 ch_cells (fun h => open_chg6 h) h
set_option maxRecDepth 100000 in
theorem open_ats {n : Nat} {v : Value} {x : DataW H × List MemPlace} (h : DataW.trod enc Try.prog w base spare held n 24 [v] = some x) : ∃ xs, Arow w v xs ∧ (∀ a ∈ xs, AttW a) ∧ InA x.1 xs :=
  open_rows attC AttW atD Try.underlying24 att_cells (fun h => open_att6 h) h

set_option maxRecDepth 100000 in
/-- What they weigh: how many places, how long each text. -/
theorem sized_C {ts : List TypeId} {ds : List (DataW H)} (h : (DataW.weightsEach Try.prog ts ds).all (· ≤ reachBytes) = true) {j : Nat} {d : DataW H} {xs : List Chg} (hd : InC d xs) (ht : ts[j]? = some 23) (hj : ds[j]? = some d) :
    xs.length * 56 ≤ 140737488355328 ∧ ∀ c ∈ xs, c.s.size ≤ 140737488355328 := by
  have h2 := reachBytes_lt
  rcases hd with ⟨-, rfl⟩ | ⟨sp, rfl⟩
  · simp
  · have hu := Try.underlying23
    refine ⟨?_, fun c hc => ?_⟩
    · have := sized_slice h ht hj hu
      rw [ch_bytes, List.length_map] at this
      have h3 : xs.length * 56 ≤ (xs.length + sp.length) * 56 := Nat.mul_le_mul_right _ (by omega)
      omega
    · have hin : ∀ (l : List Chg), c ∈ l → c.s.data.toList.length ∈ DataW.weightsAll Try.prog 49 (l.map (chD (H := H))) := by
        intro l hl
        induction l with
        | nil => cases hl
        | cons x r ih =>
          simp only [List.map_cons, DataW.weightsAll, List.mem_append]
          rcases List.mem_cons.1 hl with rfl | hl
          · left
            simp [chD, vD, DataW.weights, DataW.weightsEach, Try.underlying49, Try.underlying47]
          · exact .inr (ih hl)
      have h4 := List.all_eq_true.1 h _ (DataW.weights_mem_each ht hj c.s.data.toList.length (by simp only [DataW.weights, hu, List.mem_cons, List.mem_append]; exact .inr (.inl (hin xs hc))))
      simp at h4
      omega

end
end Go.Proofs.Ythcakinllcffoaa

/- C20: PatchMay -/
namespace Go.Proofs.Ythcakinllcffoaa
open Go.RowKit
set_option linter.unusedVariables false

theorem new_h (ks : List Key) (hW : ∀ k ∈ ks, KeyW k) (hm : mayKs ks) (v : Value) (W : World) (hv : Krow W v ks) :
    Calls Try.prog 9 #[v] W fun e w' => ∃ s, e = .returned (.tuple #[.pointer (some s), .int .i64 0]) ∧ Hid (Sch w' (.pointer (some s)) ks) ∧ Below W.heap.size W w' :=
  (new_yes hv hW hm).mono fun e w' ⟨s, he, hs, hb⟩ => ⟨s, he, Lib.hid hs, hb⟩
theorem newno_h (ks : List Key) (hW : ∀ k ∈ ks, KeyW k) (hm : ¬ mayKs ks) (v : Value) (W : World) (hv : Krow W v ks) :
    Calls Try.prog 9 #[v] W fun e w' => e = .returned (.tuple #[.pointer none, .int .i64 3]) ∧ Below W.heap.size W w' := new_no hv hW hm
theorem rkeysno_h (ks : List Key) (hm : ¬ mayKs ks) (v : Value) (W : World) (hv : Krow W v ks) :
    Calls Try.prog 10 #[v] W fun e w' => e = .returned (.bool false) ∧ Below W.heap.size W w' :=
  (rmay_keys v ks W hv).mono fun e w' ⟨hb, b, he, hi⟩ => ⟨by rw [he]; cases b with | false => rfl | true => exact absurd (hi.1 rfl) hm, hb⟩
theorem may6_h (ks : List Key) (p : List Chg) (m : Int) (h : may6 ks p = m) (hW : ∀ a ∈ p, ChgW a) (pv v : Value) (W : World) (hs : Sch W pv ks) (hv : Crow W v p) :
    Calls Try.prog 23 #[pv, v] W fun e w' => e = .returned (.int .i64 m) ∧ Below W.heap.size W w' := by
  rw [← h]; exact may_any6 pv ks v p W hs hv hW
end Go.Proofs.Ythcakinllcffoaa
