
import Derived.Test.YtmbjjaflgdfihaaD14
import Derived.Deep.AppendLies
import Derived.BigQuiet
import Derived.Deep.QuietTactic
import Derived.Lib.AppendZeros
import Derived.Laws.Cover3
import Derived.WalkMore
import Derived.Deep.RegionHeld3
import Derived.RegionTactic
import Derived.Shelf.Abstract
import Derived.Deep.Slices
import Derived.Deep.Fields
import Derived.ChangeArms
import Derived.ChangeSame
import Derived.ChangeMaps5
import Derived.Lib.SmallJoins
import Derived.OpenShut
import Derived.SizedLaws
import Derived.Deep.RegionLaw
import Derived.Deep.Cut
import Derived.Deep.MidRow
import Derived.Maps.RangeWalk
import Derived.WalkKit
import Derived.OwnWalkIn
import Derived.TacticsInMore
import Derived.LoopNIn
import Derived.LoopIn
import Derived.StillTailTactics
/- A1: rows of whatever lies in m cells -/
namespace Go.Proofs.Ytmbjjaflgdfihaa
open Go.RowKit
set_option linter.unusedVariables false

/-- How an element lies: m cells, each whole. -/
structure Cel (α : Type) where
  c : α → List Value
  m : Nat
  len : ∀ x, (c x).length = m
  one : ∀ x, ∀ u ∈ c x, u.oneCell' = true
  pos : 0 < m

section
variable {α : Type} (C : Cel α)
def fl (xs : List α) : List Value := xs.flatMap C.c
theorem fl_nil : fl C [] = [] := rfl
theorem fl_cons (x : α) (r : List α) : fl C (x :: r) = C.c x ++ fl C r := rfl
theorem fl_app (a b : List α) : fl C (a ++ b) = fl C a ++ fl C b := by simp [fl]
theorem fl_one (x : α) : fl C [x] = C.c x := by simp [fl]
theorem fl_len : ∀ xs : List α, (fl C xs).length = xs.length * C.m
  | [] => by simp [fl]
  | x :: r => by rw [fl_cons, List.length_append, fl_len r, C.len, List.length_cons, Nat.add_mul]; omega
theorem fl_ones (xs : List α) : ∀ u ∈ fl C xs, u.oneCell' = true := by
  intro u hu
  obtain ⟨x, _, hx⟩ := List.mem_flatMap.1 hu
  exact C.one x u hx
theorem fl_get : ∀ (xs : List α) (j i : Nat) (hj : j < xs.length), i < C.m → (fl C xs)[j * C.m + i]? = (C.c xs[j])[i]?
  | x :: r, 0, i, _, hi => by
    rw [fl_cons, List.getElem?_append_left (by rw [C.len]; omega)]
    simp
  | x :: r, j + 1, i, hj, hi => by
    have e : (j + 1) * C.m + i = C.m + (j * C.m + i) := by rw [Nat.add_mul]; omega
    rw [fl_cons, List.getElem?_append_right (by rw [C.len]; omega)]
    have : (j + 1) * C.m + i - (C.c x).length = j * C.m + i := by rw [C.len]; omega
    rw [this, fl_get r j i (by simpa using hj) hi]
    simp
/-- A slice that reads as xs. -/
def Row (w : World) (v : Value) (xs : List α) : Prop :=
  (∃ a cap, v = .slice a 0 cap ∧ xs = [] ∧ cap ≤ maxLen ∧ (a = none → cap = 0)) ∨
  ∃ b off cap, v = .slice (some ⟨b, off, none⟩) xs.length cap ∧ 0 < xs.length ∧ xs.length ≤ cap ∧ cap ≤ maxLen ∧
    (∀ j u, (fl C xs)[j]? = some u → w.cell? ⟨b, off + j, none⟩ = some u)
variable {C}
theorem Row.below {B : Nat} {w w' : World} {v : Value} {xs : List α} (h : Row C w v xs) (hb : Below B w w') (hB : w.heap.size ≤ B) : Row C w' v xs := by
  rcases h with h | ⟨b, off, cap, rfl, h0, h1, h2, h3⟩
  · exact .inl h
  · refine .inr ⟨b, off, cap, rfl, h0, h1, h2, fun j u hu => ?_⟩
    have := h3 j u hu
    rw [← this]
    exact hb.cell (p := ⟨b, off + j, none⟩) (Nat.lt_of_lt_of_le (World.block_lt_of_cell? w _ this) hB)
theorem Row.shape {w : World} {v : Value} {xs : List α} (h : Row C w v xs) : ∃ a cap, v = .slice a xs.length cap := by
  rcases h with ⟨a, cap, rfl, rfl, hm, _⟩ | ⟨b, off, cap, rfl, h0, h1, hm, hc⟩
  · exact ⟨a, cap, rfl⟩
  · exact ⟨_, _, rfl⟩
theorem Row.len {w : World} {v : Value} {xs : List α} (h : Row C w v xs) : xs.length ≤ 9223372036854775807 := by
  rcases h with ⟨a, cap, rfl, rfl, _⟩ | ⟨b, off, cap, rfl, h0, h1, h2, h3⟩
  · simp
  · unfold maxLen at h2; omega
theorem Row.nil (w : World) : Row C w (.slice none 0 0) [] := .inl ⟨none, 0, rfl, rfl, by simp, fun _ => rfl⟩
theorem Row.opened {w : World} {a : Option Addr} {n cap : Nat} {xs : List α} (h : Row C w (.slice a n cap) xs) (h0 : 0 < xs.length) :
    ∃ b off, a = some ⟨b, off, none⟩ ∧ n = xs.length ∧ xs.length ≤ cap ∧ cap ≤ maxLen ∧ b < w.heap.size ∧
      (∀ j (hj : j < xs.length) i u, (C.c xs[j])[i]? = some u → w.cell? ⟨b, off + j * C.m + i, none⟩ = some u) ∧ (∀ j u, (fl C xs)[j]? = some u → w.cell? ⟨b, off + j, none⟩ = some u) := by
  rcases h with ⟨a, cap, hv, rfl, _⟩ | ⟨b, off, cap', hv, _, h1, hm, hc⟩
  · simp at h0
  · injection hv with e1 e2 e3
    subst e1 e2 e3
    have hat : ∀ j (hj : j < xs.length) i u, (C.c xs[j])[i]? = some u → w.cell? ⟨b, off + j * C.m + i, none⟩ = some u := fun j hj i u hu => by
      have hi : i < C.m := by have := (List.getElem?_eq_some_iff.1 hu).1; rwa [C.len] at this
      have := hc (j * C.m + i) u ((fl_get C xs j i hj hi).trans hu)
      rwa [← Nat.add_assoc] at this
    have hb : b < w.heap.size := by
      have hp : 0 < (C.c xs[0]).length := by rw [C.len]; exact C.pos
      exact World.block_lt_of_cell? w _ (hat 0 h0 0 _ (List.getElem?_eq_getElem hp))
    exact ⟨b, off, rfl, rfl, h1, hm, hb, hat, hc⟩
/-- A row that the call owns reads as what it owns. -/
theorem Row.of_owns {w : World} {base : Nat} {e : TypeId} {v : Value} {n : Nat} {xs : List α} (h : w.ownsRow base e C.m v n (fl C xs)) : Row C w v xs ∧ n = xs.length := by
  have hn : n = xs.length := by have := h.1; rw [fl_len] at this; exact (Nat.eq_of_mul_eq_mul_right C.pos this).symm
  subst hn
  refine ⟨?_, rfl⟩
  by_cases hx : xs = []
  · subst hx
    rcases h.2 with ⟨rfl, _⟩ | ⟨g, cap, cur, rfl, hb, hg, hc, hm, _⟩
    · exact .inl ⟨none, 0, rfl, rfl, by simp, fun _ => rfl⟩
    · exact .inl ⟨_, cap, rfl, rfl, hm, by simp⟩
  · have hpos : 0 < xs.length := List.length_pos_iff.2 hx
    rcases h.2 with ⟨rfl, h0⟩ | ⟨g, cap, cur, hv, hb, hg, hc, hm, _⟩
    · omega
    · subst hv
      refine .inr ⟨g, 0, cap, rfl, hpos, hc, hm, fun j u hu => ?_⟩
      have := h.cells (g := g) rfl j u hu
      rw [Go.WideShapes.add_plain] at this
      simpa using this
/-- The block of a row that the call owns lies from its base on. -/
theorem own_base {w : World} {base : Nat} {e : TypeId} {size : Nat} {v : Value} {n : Nat} {xs : List Value} (h : w.ownsRow base e size v n xs) {k : Nat} (hk : v.ownBlock = some k) : base ≤ k := by
  rcases h.2 with ⟨rfl, _⟩ | ⟨g, cap, cur, rfl, hb, _⟩
  · simp [Value.ownBlock] at hk
  · simp [Value.ownBlock] at hk; omega
theorem Row.built (w : World) (t : TypeId) (xs : List α) (hm : xs.length ≤ maxLen) : Row C (w.alloc (.cells (fl C xs).toArray t)) (.slice (some ⟨w.heap.size, 0, none⟩) xs.length xs.length) xs := by
  by_cases h0 : xs = []
  · subst h0; exact .inl ⟨_, 0, rfl, rfl, by simp, by simp⟩
  · refine .inr ⟨_, 0, _, rfl, List.length_pos_iff.2 h0, Nat.le_refl _, hm, fun j u hu => ?_⟩
    rw [cell_of_row (w.alloc (.cells (fl C xs).toArray t)) w.heap.size (0 + j) _ t (0, 0) (heap_alloc_new w _), ← hu]
    simp
theorem row_mid_len (xs : List α) {lo hi : Nat} (h1 : lo ≤ hi) (h2 : hi ≤ xs.length) : ((xs.take hi).drop lo).length = hi - lo := by rw [List.length_drop, List.length_take]; omega
/-- A part of a slice, as Go cuts it. -/
theorem Row.mid {w : World} {a : Option Addr} {n cap lo hi : Nat} {xs : List α} (h : Row C w (.slice a n cap) xs) (h1 : lo ≤ hi) (h2 : hi ≤ xs.length) :
    Row C w (sliced a lo hi cap C.m) ((xs.take hi).drop lo) := by
  have hl := row_mid_len xs h1 h2
  have hcm : cap ≤ maxLen ∧ (a = none → cap = 0) ∧ xs.length ≤ cap := by
    rcases h with ⟨a', cap', hv', hx, hm, hn⟩ | ⟨b, off, cap', hv', _, hc, hm, _⟩
    · injection hv' with e1 e2 e3; subst e1 e3; subst hx; exact ⟨hm, hn, by simp⟩
    · injection hv' with e1 e2 e3; subst e1 e3; exact ⟨hm, by simp, hc⟩
  unfold sliced
  by_cases h0 : lo = hi
  · subst h0
    refine .inl ⟨_, cap - lo, by rw [Nat.sub_self], by apply List.drop_eq_nil_of_le; rw [List.length_take]; omega, by omega, fun hn => ?_⟩
    split at hn
    · have := hcm.2.1 hn; omega
    · have := hcm.2.1 (by simpa using hn); omega
  · obtain ⟨b, off, ha, hn, hx, hm, hbl, -, hcc⟩ := h.opened (by omega)
    subst ha
    rw [if_neg (by omega)]
    refine .inr ⟨b, off + lo * C.m, cap - lo, ?_, by omega, by omega, by omega, fun j u hu => ?_⟩
    · rw [hl, Option.map_some, Go.WideShapes.add_plain]
    · have hj : j < (hi - lo) * C.m := by
        have := (List.getElem?_eq_some_iff.1 hu).1
        rwa [fl_len, hl] at this
      have e : fl C xs = fl C (xs.take lo) ++ (fl C ((xs.take hi).drop lo) ++ fl C (xs.drop hi)) := by
        rw [← fl_app, ← fl_app]
        congr 1
        have e2 : xs.take lo = (xs.take hi).take lo := by rw [List.take_take, Nat.min_eq_left h1]
        rw [e2, ← List.append_assoc, List.take_append_drop, List.take_append_drop]
      have hlo : (fl C (xs.take lo)).length = lo * C.m := by rw [fl_len, List.length_take, Nat.min_eq_left (by omega)]
      have : (fl C xs)[lo * C.m + j]? = some u := by
        rw [e, List.getElem?_append_right (by omega), hlo, Nat.add_sub_cancel_left, List.getElem?_append_left (by rw [fl_len, hl]; exact hj)]
        exact hu
      rw [Nat.add_assoc]
      exact hcc _ _ this
theorem Row.headed {w : World} {a : Option Addr} {n cap hi : Nat} {xs : List α} (h : Row C w (.slice a n cap) xs) (h2 : hi ≤ xs.length) : Row C w (sliced a 0 hi cap C.m) (xs.take hi) := by
  have := h.mid (Nat.zero_le hi) h2
  simpa using this
theorem Row.tailed {w : World} {a : Option Addr} {n cap lo : Nat} {xs : List α} (h : Row C w (.slice a n cap) xs) (h1 : lo ≤ xs.length) : Row C w (sliced a lo xs.length cap C.m) (xs.drop lo) := by
  have := h.mid h1 (Nat.le_refl _)
  rwa [List.take_of_length_le (Nat.le_refl _)] at this

theorem Row.head {w : World} {a : Option Addr} {n cap hi : Nat} {xs : List α} (h : Row C w (.slice a n cap) xs) (h2 : hi ≤ xs.length) : Row C w (.slice a hi cap) (xs.take hi) := by
  have := h.headed h2
  unfold sliced at this
  have e : (if cap = 0 then a else a.map (·.add (0 * C.m))) = a := by
    split
    · rfl
    · rw [Nat.zero_mul]
      cases a with
      | none => rfl
      | some x => obtain ⟨b, o, s⟩ := x; simp [Addr.add]
  rw [e] at this
  simpa using this
theorem Row.tail {w : World} {a : Option Addr} {n cap lo : Nat} {xs : List α} (h : Row C w (.slice a n cap) xs) (h1 : lo ≤ xs.length) :
    (cap = lo → Row C w (.slice a (xs.length - lo) 0) (xs.drop lo)) ∧ (¬ cap = lo → Row C w (.slice (a.map fun x => x.add (lo * C.m)) (xs.length - lo) (cap - lo)) (xs.drop lo)) := by
  have := h.tailed h1
  unfold sliced at this
  refine ⟨fun hc => ?_, fun hc => ?_⟩
  · rw [if_pos hc, hc, Nat.sub_self] at this; exact this
  · rw [if_neg hc] at this; exact this

/-- append(out, src...): out the call's own, src whatever slice, nil too. -/
theorem wpList_append_row {P : Program} {w : World} {ops : Array Oper} {rest : List Oper} {o : Oper} {a : Act} {Q : Exit → Act → World → Prop} (hgd : o.guard = none) (s x : Operand) (t : TypeId)
    (ho : o.op = .call { callee := .builtin .append, args := #[s, x], argTypes := #[t, t] })
    (base : Nat) (e : TypeId) (i : TypeInfo) (z : Value) (bytes : Nat) (ht : P.underlying t = some (.slice e)) (hi : P.info? e = some i) (hz : i.zero = some z)
    (hsize : i.size = C.m) (hby : i.bytes = bytes) (hzs : z.cells.size = C.m)
    (v : Value) (n : Nat) (cs : List Value) (hs : a.eval s = v) (hown : w.ownsRow base e C.m v n cs)
    (u : Value) (ys : List α) (hx : a.eval x = u) (hu : Row C w u ys)
    (h63 : n + ys.length ≤ maxLen) (hbytes : (n + ys.length) * bytes ≤ 140737488355328) (hbase : base ≤ w.heap.size)
    (h : ∀ v' w', w'.ownsRow base e C.m v' (n + ys.length) (cs ++ fl C ys) → w.grownBy w' v.ownBlock → wpList P ops Q rest (a.put o.dst v') w') : wpList P ops Q (o :: rest) a w := by
  rcases hu with ⟨ad, cap, rfl, rfl, hm, hc0⟩ | ⟨b, off, cap, rfl, h0, h1, hm, hc⟩
  · cases ad with
    | none =>
      obtain rfl := hc0 rfl
      exact wpList_append_own_none hgd s x t ho base e i C.m ht hi v n cs hs hown hx (h v w (by simpa [fl_nil] using hown) (grown_refl _ _))
    | some ad =>
      exact wpList_append_own w hgd s x t ho base e i z C.m bytes ht hi hz hsize hby hzs C.pos v n cs hs hown ad 0 cap [] hx (by simp) (by intro j u hj; simp at hj) (by intro u hu; cases hu) h63 hbytes hbase (fun v' w' q1 q2 _ => h v' w' (by simpa [fl_nil] using q1) q2)
  · refine wpList_append_own w hgd s x t ho base e i z C.m bytes ht hi hz hsize hby hzs C.pos v n cs hs hown ⟨b, off, none⟩ ys.length cap (fl C ys) hx (fl_len C ys) ?_ (fl_ones C ys) h63 hbytes hbase (fun v' w' q1 q2 _ => h v' w' q1 q2)
    intro j u hj
    rw [Go.WideShapes.add_plain]
    exact hc j u hj
end
section
variable {P : Program} {ops : Array Oper} {C : World → Prop} {Q : Act → Prop} {a : Act} {o : Oper} {rest : List Oper}
/-- The class walk, closed in a structure: else each tactic that looks at its goal's head runs the region. -/
structure WQ (P : Program) (ops : Array Oper) (C : World → Prop) (Q : Act → Prop) (l : List Oper) (a : Act) : Prop where
  out : wpQuiet P ops C Q l a
theorem region_classw {id : Nat} {Q' : Exit → Act → World → Prop} {w : World} {l : List Oper} (hm : P.follows .mixedOrders = true) (hB : Region.lexB .any l.toArray = true) (hC : C w.drew)
    (h : WQ P l.toArray C (fun a' => ∀ w', C w' → Q' .normal a' w') l a) : (Code.region id l.toArray true).wp P Q' a w := region_class hm hB hC h.out
theorem w_skip {j : Nat} {want : Bool} (hg : o.guard = some (j, want)) (hy : yielded ops a.tmps j = some (!want)) (k : WQ P ops C Q rest (a.put o.dst undef)) : WQ P ops C Q (o :: rest) a :=
  ⟨q_skip (by unfold Region.wanted; rw [hg]; simp only [hy]; cases want <;> rfl) k.out⟩
theorem w_skipn {j : Nat} {want : Bool} (hg : o.guard = some (j, want)) (hy : yielded ops a.tmps j = none) (k : WQ P ops C Q rest (a.put o.dst undef)) : WQ P ops C Q (o :: rest) a :=
  ⟨q_skip (by unfold Region.wanted; rw [hg]; simp only [hy]; rfl) k.out⟩
theorem w_valg {j : Nat} {want : Bool} {v : Value} (hg : o.guard = some (j, want)) (hy : yielded ops a.tmps j = some want) (hv : ∀ w, C w → (execOp a.eval o).run P w = .ok (.value v) w) (k : WQ P ops C Q rest (a.put o.dst v)) : WQ P ops C Q (o :: rest) a :=
  ⟨q_val (by unfold Region.wanted; rw [hg]; simp only [hy]; cases want <;> rfl) hv k.out⟩
theorem w_val {v : Value} (hg : o.guard = none) (hv : ∀ w, C w → (execOp a.eval o).run P w = .ok (.value v) w) (k : WQ P ops C Q rest (a.put o.dst v)) : WQ P ops C Q (o :: rest) a :=
  ⟨q_val (by unfold Region.wanted; rw [hg]) hv k.out⟩
theorem w_callg {j : Nat} {want : Bool} {v : Value} {f : FuncId} {args : Array Value} (hg : o.guard = some (j, want)) (hy : yielded ops a.tmps j = some want) (hv : ∀ w, C w → (execOp a.eval o).run P w = .ok (.enter f args) w)
    (hc : ∀ w, C w → Calls P f args w fun e w' => e = .returned v ∧ C w') (k : WQ P ops C Q rest (a.put o.dst v)) : WQ P ops C Q (o :: rest) a :=
  ⟨q_call (by unfold Region.wanted; rw [hg]; simp only [hy]; cases want <;> rfl) hv hc k.out⟩
theorem w_call {v : Value} {f : FuncId} {args : Array Value} (hg : o.guard = none) (hv : ∀ w, C w → (execOp a.eval o).run P w = .ok (.enter f args) w)
    (hc : ∀ w, C w → Calls P f args w fun e w' => e = .returned v ∧ C w') (k : WQ P ops C Q rest (a.put o.dst v)) : WQ P ops C Q (o :: rest) a :=
  ⟨q_call (by unfold Region.wanted; rw [hg]) hv hc k.out⟩
theorem w_end (h : Q a) : WQ P ops C Q [] a := ⟨q_end h⟩
end

end Go.Proofs.Ytmbjjaflgdfihaa

/- A2: attributes as plain data -/
namespace Go.Proofs.Ytmbjjaflgdfihaa
open Go.RowKit
set_option linter.unusedVariables false

/-- An attribute: its key, and the value's kind, number, bits, text. -/
structure Att where
  key : Int
  k : Int
  n : Int
  f : Int
  s : ByteArray
deriving DecidableEq

@[reducible] def av (a : Att) : Value := .agg #[.int .i64 a.key, .int .u8 a.k, .int .i64 a.n, .int .u64 a.f, .string a.s]
@[reducible] def ac (a : Att) : List Value := [.int .i64 a.key, .int .u8 a.k, .int .i64 a.n, .int .u64 a.f, .string a.s]
@[reducible] def aca (a : Att) : Array Value := #[.int .i64 a.key, .int .u8 a.k, .int .i64 a.n, .int .u64 a.f, .string a.s]
@[reducible] def noAtt : Att := ⟨0, 0, 0, 0, ⟨#[]⟩⟩
instance : Inhabited Att := ⟨noAtt⟩
/-- An attribute's value. -/
@[reducible] def vv (a : Att) : Value := val a.k a.n a.f a.s

theorem ac_one (a : Att) : ∀ u ∈ ac a, u.oneCell' = true := by
  intro u hu
  simp at hu
  rcases hu with rfl | rfl | rfl | rfl | rfl <;> rfl
/-- How an attribute lies: five cells. -/
def attC : Cel Att := ⟨ac, 5, fun _ => rfl, ac_one, by decide⟩
theorem attC_m : attC.m = 5 := rfl
theorem attC_c (a : Att) : attC.c a = ac a := rfl

/-- What an attribute's numbers are within. -/
structure AttW (a : Att) : Prop where
  key : (Lit.int .i64 a.key).wf = true
  k : (Lit.int .u8 a.k).wf = true
  n : (Lit.int .i64 a.n).wf = true
  f : (Lit.int .u64 a.f).wf = true
  s : a.s.size ≤ maxLen
theorem AttW.f0 {a : Att} (h : AttW a) : 0 ≤ a.f := by have := Go.bounds_u64 h.f; omega
theorem AttW.f1 {a : Att} (h : AttW a) : a.f < 18446744073709551616 := by have := Go.bounds_u64 h.f; omega

/-- Its five cells at a place; at a block's head. -/
@[reducible] def AAt (b o : Nat) (a : Att) (w : World) : Prop :=
  w.cell? ⟨b, o, none⟩ = some (.int .i64 a.key) ∧ w.cell? ⟨b, o + 1, none⟩ = some (.int .u8 a.k) ∧ w.cell? ⟨b, o + 2, none⟩ = some (.int .i64 a.n) ∧ w.cell? ⟨b, o + 3, none⟩ = some (.int .u64 a.f) ∧ w.cell? ⟨b, o + 4, none⟩ = some (.string a.s)
@[reducible] def ABox (b : Nat) (a : Att) (w : World) : Prop :=
  w.cell? ⟨b, 0, none⟩ = some (.int .i64 a.key) ∧ w.cell? ⟨b, 1, none⟩ = some (.int .u8 a.k) ∧ w.cell? ⟨b, 2, none⟩ = some (.int .i64 a.n) ∧ w.cell? ⟨b, 3, none⟩ = some (.int .u64 a.f) ∧ w.cell? ⟨b, 4, none⟩ = some (.string a.s)
theorem AAt.below {B b o : Nat} {a : Att} {w w' : World} (h : AAt b o a w) (hb : Below B w w') (hB : b < B) : AAt b o a w' := by
  obtain ⟨h0, h1, h2, h3, h4⟩ := h
  exact ⟨(hb.cell (p := ⟨b, _, none⟩) hB).trans h0, (hb.cell (p := ⟨b, _, none⟩) hB).trans h1, (hb.cell (p := ⟨b, _, none⟩) hB).trans h2, (hb.cell (p := ⟨b, _, none⟩) hB).trans h3, (hb.cell (p := ⟨b, _, none⟩) hB).trans h4⟩
theorem ABox.below {B b : Nat} {a : Att} {w w' : World} (h : ABox b a w) (hb : Below B w w') (hB : b < B) : ABox b a w' := by
  obtain ⟨h0, h1, h2, h3, h4⟩ := h
  exact ⟨(hb.cell (p := ⟨b, _, none⟩) hB).trans h0, (hb.cell (p := ⟨b, _, none⟩) hB).trans h1, (hb.cell (p := ⟨b, _, none⟩) hB).trans h2, (hb.cell (p := ⟨b, _, none⟩) hB).trans h3, (hb.cell (p := ⟨b, _, none⟩) hB).trans h4⟩
theorem ABox.box (a : Att) (w : World) (t : TypeId) : ABox w.heap.size a (w.alloc (.cells (aca a) t)) := by
  refine ⟨?_, ?_, ?_, ?_, ?_⟩ <;> (rw [cell_of_row _ w.heap.size _ _ t (0, 0) (heap_alloc_new w _)]; rfl)
theorem ABox.lt {b : Nat} {a : Att} {w : World} (h : ABox b a w) : b < w.heap.size := World.block_lt_of_cell? w _ h.1

/-- A slice of attributes that reads as xs. -/
@[reducible] def Arow (w : World) (v : Value) (xs : List Att) : Prop := Row attC w v xs
theorem Arow.opn {w : World} {a : Option Addr} {n cap : Nat} {xs : List Att} (h : Arow w (.slice a n cap) xs) (h0 : 0 < xs.length) :
    ∃ b off, a = some ⟨b, off, none⟩ ∧ n = xs.length ∧ xs.length ≤ cap ∧ cap ≤ maxLen ∧ b < w.heap.size ∧ (∀ j (hj : j < xs.length), AAt b (off + j * 5) xs[j] w) := by
  obtain ⟨b, off, ha, hn, hc, hm, hb, hat, -⟩ := Row.opened h h0
  refine ⟨b, off, ha, hn, hc, hm, hb, fun j hj => ⟨?_, ?_, ?_, ?_, ?_⟩⟩
  · exact hat j hj 0 _ rfl
  · exact hat j hj 1 _ rfl
  · exact hat j hj 2 _ rfl
  · exact hat j hj 3 _ rfl
  · exact hat j hj 4 _ rfl

/-- The elements' type, as the program lays it. -/
theorem info_att : Try.prog.info? 46 = Try.prog.info? 46 := rfl

def aeq (a b : Att) : Bool := (a.key == b.key) && ((a.k == b.k) && (a.n == b.n) && (a.f == b.f) && (a.s.toList == b.s.toList))
theorem aeq_iff (a b : Att) : aeq a b = true ↔ a = b := by
  obtain ⟨a1, a2, a3, a4, a5⟩ := a
  obtain ⟨b1, b2, b3, b4, b5⟩ := b
  have hs : a5.toList = b5.toList ↔ a5 = b5 := by
    rw [ByteArray.toList_eq, ByteArray.toList_eq]
    exact ⟨fun h => Go.WideShapes.bytes_inj h, fun h => by rw [h]⟩
  simp [aeq, hs, and_assoc]
theorem aeq_dec (a b : Att) : aeq a b = decide (a = b) := by
  rw [Bool.eq_iff_iff, aeq_iff]; simp

set_option maxRecDepth 100000 in
theorem att_in (a b : Att) (w : World) : (Op.equalIn 10000 46 (av a) (av b)).run Try.prog w = .ok (aeq a b) w := by
  obtain ⟨a1, a2, a3, a4, a5⟩ := a
  obtain ⟨b1, b2, b3, b4, b5⟩ := b
  have hS : Try.prog.underlying 46 = some (.struct (Try.prog.fieldsOf 46)) := by kernel_rfl
  have hp : Try.prog.stoodInHeld 46 = false := by kernel_rfl
  have u0 := Try.underlying3
  have ag0 := Try.isAgg3
  have ag5 := Try.isAgg44
  have z0 := Try.sizeOf3
  have z5 := Try.sizeOf44
  rw [show (10000 : Nat) = 9999 + 1 from rfl, run_equalIn_agg w 9999 46 _ _ hS hp]
  simp only [Program.fieldsOf, Try.underlying46]
  simp only [Op.eqFields, ne_eq]
  go_simp
  unfold aeq
  by_cases h1 : a1 = b1 <;> by_cases h2 : a2 = b2 <;> by_cases h3 : a3 = b3 <;> by_cases h4 : a4 = b4 <;> by_cases h5 : a5.toList = b5.toList <;> simp [h1, h2, h3, h4, h5]
theorem att_eql (a b : Att) (w : World) : (binOp .eql 46 (av a) (av b)).run Try.prog w = .ok (.bool (aeq a b)) w := by
  rw [run_eql_struct, att_in]; rfl
theorem att_neq (a b : Att) (w : World) : (binOp .neq 46 (av a) (av b)).run Try.prog w = .ok (.bool (!aeq a b)) w := by
  rw [run_neq_struct, att_in]; rfl
end Go.Proofs.Ytmbjjaflgdfihaa

/- A3: sets held against one another; great; rising -/
namespace Go.Proofs.Ytmbjjaflgdfihaa
open Go.RowKit
set_option linter.unusedVariables false

theorem atake_snoc {xs : List Att} {k : Nat} (h : k < xs.length) : xs.take (k + 1) = xs.take k ++ [xs[k]] := by
  rw [List.take_succ_eq_append_getElem h]
theorem eq_step {xs ys : List Att} {k : Nat} (h1 : k < xs.length) (h2 : k < ys.length) (h : xs.take k = ys.take k) (he : xs[k] = ys[k]) : xs.take (k + 1) = ys.take (k + 1) := by
  rw [atake_snoc h1, atake_snoc h2, h, he]
theorem eq_end {xs ys : List Att} (hl : xs.length = ys.length) (h : xs.take xs.length = ys.take xs.length) : xs = ys := by
  rw [List.take_of_length_le (Nat.le_refl _), hl, List.take_of_length_le (Nat.le_refl _)] at h; exact h
theorem eq_bad {xs ys : List Att} {k : Nat} (h1 : k < xs.length) (h2 : k < ys.length) (he : ¬ xs[k] = ys[k]) : ¬ xs = ys := by
  intro h; subst h; exact he rfl
theorem dec_yes {p : Prop} [Decidable p] (h : p) : Ending.returned (.bool true) = .returned (.bool (decide p)) := by rw [decide_eq_true h]
theorem dec_no {p : Prop} [Decidable p] (h : ¬ p) : Ending.returned (.bool false) = .returned (.bool (decide p)) := by rw [decide_eq_false h]

set_option maxRecDepth 100000 in
theorem equal_any (v1 v2 : Value) (xs ys : List Att) (w : World) (h1 : Arow w v1 xs) (h2 : Arow w v2 ys) :
    Calls Try.prog 37 #[v1, v2] w fun e w' => e = .returned (.bool (decide (xs = ys))) ∧ ∃ q, w' = w.drewN q := by
  have hl1 := h1.len
  have hl2 := h2.len
  obtain ⟨a1, cap1, rfl⟩ := h1.shape
  obtain ⟨a2, cap2, rfl⟩ := h2.shape
  by_cases hl : xs.length = ys.length
  · by_cases h0 : 0 < xs.length
    · obtain ⟨b1, o1, rfl, -, -, -, -, hat1⟩ := Arow.opn h1 h0
      obtain ⟨b2, o2, rfl, -, -, -, -, hat2⟩ := Arow.opn h2 (by omega)
      clear h1 h2
      have H1 := Lib.hid hat1
      have H2 := Lib.hid hat2
      have HL := Lib.hid hl
      clear hat1 hat2
      rw [← hl]
      clear hl hl2
      go_enter Try.func37, Try.ntmps37
      go_wp2
      go_loopw [13] (fun i wr => ∃ k q : Nat, k ≤ xs.length ∧ i = .int .i64 k ∧ wr = w.drewN q ∧ Hid (xs.take k = ys.take k)) (fun i _ => xs.length - (intOf i).toNat)
      case atStart => exact ⟨0, 0, Nat.zero_le _, rfl, rfl, Lib.hid rfl⟩
      case round =>
        obtain ⟨k, q, hk, rfl, rfl, HP⟩ := hrel
        by_cases hlt : k < xs.length
        · have hlt2 : k < ys.length := by rw [← HL.out]; exact hlt
          obtain ⟨c0, c1, c2, c3, c4⟩ := H1.out k hlt
          obtain ⟨d0, d1, d2, d3, d4⟩ := H2.out k hlt2
          have hS := fun h => eq_step hlt hlt2 HP.out h
          have hE := fun h => eq_bad hlt hlt2 h
          have hD : aeq xs[k] ys[k] = decide (xs[k] = ys[k]) := aeq_dec _ _
          have hq := fun w => att_neq xs[k] ys[k] w
          generalize xs[k] = x at *
          generalize ys[k] = y at *
          by_cases hxy : x = y
          · have HS := Lib.hid (hS hxy)
            have e1 : aeq x y = true := by rw [hD]; simp [hxy]
            rw [e1] at hq
            obtain ⟨x1, x2, x3, x4, x5⟩ := x
            obtain ⟨y1, y2, y3, y4, y5⟩ := y
            clear hS hE hD e1 hxy
            simp only at c0 c1 c2 c3 c4 d0 d1 d2 d3 d4 hq
            go_wp2
            go_quiet (fail)
            go_wp2
            go_roundw
            case rel => exact ⟨k + 1, q + nq, by omega, by go_num, by simp, HS⟩
            case measure => simp [intOf]; omega
          · have HS := Lib.hid (hE hxy)
            have e1 : aeq x y = false := by rw [hD]; simp [hxy]
            rw [e1] at hq
            obtain ⟨x1, x2, x3, x4, x5⟩ := x
            obtain ⟨y1, y2, y3, y4, y5⟩ := y
            clear hS hE hD e1 hxy
            simp only at c0 c1 c2 c3 c4 d0 d1 d2 d3 d4 hq
            go_wp2
            go_quiet (fail)
            go_wp2
            go_ret
            exact ⟨dec_no HS.out, q + nq, by simp⟩
        · obtain rfl : k = xs.length := by omega
          have HE := Lib.hid (eq_end HL.out HP.out)
          clear HP
          go_wp2
          go_ret
          exact ⟨dec_yes HE.out, _, rfl⟩
    · obtain rfl : xs = [] := List.eq_nil_of_length_eq_zero (by omega)
      obtain rfl : ys = [] := List.eq_nil_of_length_eq_zero (by simpa using hl.symm)
      clear h1 h2 h0 hl hl1 hl2
      go_enter Try.func37, Try.ntmps37
      go_wp2
      refine wp_loop_rounds 1 ?_
      rw [rounds_succ]
      go_wp2
      go_ret
      exact ⟨rfl, 0, rfl⟩
  · have HN := Lib.hid (show ¬ xs = ys from fun h => hl (by rw [h]))
    have e1 : ((xs.length : Int) != (ys.length : Int)) = true := by simp; omega
    clear h1 h2
    go_enter Try.func37, Try.ntmps37
    go_wp2
    go_ret
    exact ⟨dec_no HN.out, 0, rfl⟩

theorem same_any5 (v1 v2 : Value) (xs ys : List Att) (w : World) (h1 : Arow w v1 xs) (h2 : Arow w v2 ys) :
    Calls Try.prog 24 #[v1, v2] w fun e w' => e = .returned (.bool (decide (xs = ys))) ∧ Below w.heap.size w w' := by
  have HE := Lib.hid (equal_any v1 v2 xs ys w h1 h2)
  clear h1 h2
  go_enter Try.func24, Try.ntmps24
  go_wp2_with (go_at_call 37; ((with_reducible refine HE.out.mono ?_); rintro e w1 ⟨rfl, q, rfl⟩))
  go_ret
  exact ⟨rfl, blw_drewN (Below.refl _ _) q⟩
end Go.Proofs.Ytmbjjaflgdfihaa

/- A4: the reference's Same, great, Rising -/
namespace Go.Proofs.Ytmbjjaflgdfihaa
open Go.RowKit
set_option linter.unusedVariables false

/-- Keys rise. -/
def Rise (xs : List Att) : Prop := xs.Pairwise (fun a b => a.key < b.key)
instance (xs : List Att) : Decidable (Rise xs) := by unfold Rise; infer_instance
theorem rise_nil : Rise [] := List.Pairwise.nil
theorem rise_step {xs : List Att} {k : Nat} (h : k + 1 < xs.length) (hr : Rise (xs.take (k + 1))) (hl : xs[k].key < xs[k + 1].key) : Rise (xs.take (k + 1 + 1)) := by
  rw [atake_snoc h]
  refine List.pairwise_append.2 ⟨hr, by simp, fun a ha b hb => ?_⟩
  simp at hb
  subst hb
  rw [atake_snoc (by omega : k < xs.length)] at ha hr
  rcases List.mem_append.1 ha with ha | ha
  · have := (List.pairwise_append.1 hr).2.2 a ha xs[k] (by simp)
    omega
  · simp at ha; subst ha; exact hl
theorem rise_bad {xs : List Att} {k : Nat} (h : k + 1 < xs.length) (hl : ¬ xs[k].key < xs[k + 1].key) : ¬ Rise xs := fun hr =>
  hl (List.pairwise_iff_getElem.1 hr k (k + 1) (by omega) h (by omega))
theorem rise_end {xs : List Att} (hr : Rise (xs.take xs.length)) : Rise xs := by rwa [List.take_of_length_le (Nat.le_refl _)] at hr
theorem rise_one {xs : List Att} : Rise (xs.take (0 + 1)) := by
  cases xs with
  | nil => exact rise_nil
  | cons x r => simp [Rise]

end Go.Proofs.Ytmbjjaflgdfihaa

/- A6: where a key stands -/
namespace Go.Proofs.Ytmbjjaflgdfihaa
open Go.RowKit
set_option linter.unusedVariables false

theorem two_new {w : World} (v1 v2 : Value) (t1 t2 : TypeId) {W : World} (hW : (w.alloc (.cells #[v1] t1)).alloc (.cells #[v2] t2) = W) : W.cell? ⟨w.heap.size, 0, none⟩ = some v1 ∧ W.cell? ⟨w.heap.size + 1, 0, none⟩ = some v2 ∧ Below w.heap.size w W := by
  subst hW
  have h1 := heap_alloc_new w (.cells #[v1] t1)
  have h2 := heap_alloc_new (w.alloc (.cells #[v1] t1)) (.cells #[v2] t2)
  simp only [World.size_alloc] at h2
  refine ⟨?_, ?_, ((Below.refl _ _).alloc (Nat.le_refl _) _).alloc (by simp) _⟩
  · have hc : (w.alloc (.cells #[v1] t1)).cell? ⟨w.heap.size, 0, none⟩ = some v1 := by rw [cell_of_row _ w.heap.size 0 _ _ (0, 0) h1]; rfl
    exact (((Below.refl _ _).alloc (Nat.le_refl _) (.cells #[v2] t2)).cell (p := ⟨w.heap.size, 0, none⟩) (by simp)).trans hc
  · rw [cell_of_row _ (w.heap.size + 1) 0 _ _ (0, 0) h2]; rfl

end Go.Proofs.Ytmbjjaflgdfihaa

/- A8: Get; Grow, Concat, Clone -/
namespace Go.Proofs.Ytmbjjaflgdfihaa
open Go.RowKit
set_option linter.unusedVariables false

set_option maxRecDepth 100000 in
theorem info_att5 : ∃ i0, Try.prog.info? 46 = some i0 ∧ i0.zero = some (av noAtt) ∧ i0.size = 5 ∧ i0.bytes = 48 := by
  refine ⟨_, rfl, ?_, ?_, ?_⟩ <;> kernel_rfl

end Go.Proofs.Ytmbjjaflgdfihaa

/- A9: Concat, Clone, Copy -/
namespace Go.Proofs.Ytmbjjaflgdfihaa
open Go.RowKit
set_option linter.unusedVariables false

@[reducible] def slV (x : Option Addr × Nat × Nat) : Value := .slice x.1 x.2.1 x.2.2
/-- What a list of rows holds. -/
def Rows5 (w : World) (ss : List (Option Addr × Nat × Nat)) (xss : List (List Att)) : Prop :=
  ss.length = xss.length ∧ ∀ j (h1 : j < ss.length) (h2 : j < xss.length), Arow w (slV ss[j]) xss[j]
theorem Rows5.below {B : Nat} {w w' : World} {ss : List (Option Addr × Nat × Nat)} {xss : List (List Att)} (h : Rows5 w ss xss) (hb : Below B w w') (hB : w.heap.size ≤ B) : Rows5 w' ss xss :=
  ⟨h.1, fun j h1 h2 => (h.2 j h1 h2).below hb hB⟩
end Go.Proofs.Ytmbjjaflgdfihaa

/- A10: With, Without, Copy -/
namespace Go.Proofs.Ytmbjjaflgdfihaa
open Go.RowKit
set_option linter.unusedVariables false

/-- A set of the call's own that reads as ys. -/
def Own5 (w0 w : World) (u : Value) (ys : List Att) : Prop := w.ownsRow w0.heap.size 46 5 u ys.length (fl attC ys)
theorem Own5.row {w0 w : World} {u : Value} {ys : List Att} (h : Own5 w0 w u ys) : Arow w u ys := (Row.of_owns (C := attC) h).1

end Go.Proofs.Ytmbjjaflgdfihaa

/- A11: Clone, Copy -/
namespace Go.Proofs.Ytmbjjaflgdfihaa
open Go.RowKit
set_option linter.unusedVariables false

theorem own5_nil (w0 w : World) : Own5 w0 w (.slice none 0 0) [] := ⟨rfl, .inl ⟨rfl, rfl⟩⟩

theorem owns_none (w : World) (e : TypeId) (m : Nat) : (w.alloc (.cells #[] e)).ownsRow w.heap.size e m (.slice (some ⟨w.heap.size, 0, none⟩) 0 0) 0 [] :=
  ⟨by simp, .inr ⟨w.heap.size, 0, #[], rfl, Nat.le_refl _, heap_alloc_new w _, Nat.le_refl _, by simp, by simp, by simp⟩⟩
theorem row_new0 (w : World) (a : Att) (t : TypeId) : Arow (w.alloc (.cells (aca a) t)) (.slice (some ⟨w.heap.size, 0, none⟩) 1 1) [a] := Row.built (C := attC) w t [a] (by simp [maxLen])
theorem row_new1 (w : World) (o : Obj) (a : Att) (t : TypeId) : Arow ((w.alloc o).alloc (.cells (aca a) t)) (.slice (some ⟨w.heap.size + 1, 0, none⟩) 1 1) [a] := by
  have h := row_new0 (w.alloc o) a t
  simp only [World.size_alloc] at h
  exact h
theorem nil_eql (a : Option Addr) (l c : Nat) (w : World) : (binOp .eql 39 (.slice a l c) (.slice none 0 0)).run Try.prog w = .ok (.bool a.isNone) w := by
  simp only [binOp, Sem.run_bind, run_equal_slice_nil w 39 46 a l c Try.underlying39, Result.andThen_ok, Sem.run_pure]

set_option maxRecDepth 100000 in
theorem clone_any5 (v : Value) (xs : List Att) (w : World) (hv : Arow w v xs) (hl : xs.length ≤ 100000) :
    Calls Try.prog 55 #[v] w fun e w' => ∃ u, e = .returned u ∧ Own5 w w' u xs ∧ Below w.heap.size w w' := by
  obtain ⟨i0, hi, hz0, hz1, hz2⟩ := info_att5
  have HV := Lib.hid hv
  have hnil := fun a l c w => nil_eql a l c w
  obtain ⟨a, cap, rfl⟩ := hv.shape
  cases a with
  | none =>
    obtain ⟨rfl, rfl⟩ : xs = [] ∧ cap = 0 := by
      rcases hv with ⟨_, _, h, hx, _, h0⟩ | ⟨_, _, _, h, _⟩
      · injection h with h1 _ h3; subst hx; exact ⟨rfl, by rw [h3]; exact h0 h1.symm⟩
      · injection h with h1; cases h1
    clear hv HV
    go_enter Try.func55, Try.ntmps55
    go_wp2
    go_ret
    exact ⟨_, rfl, own5_nil _ _, Below.refl _ _⟩
  | some a =>
    clear hv
    have hB := (Below.refl w.heap.size w).alloc (Nat.le_refl _) (.cells #[] 46)
    go_enter Try.func55, Try.ntmps55
    go_wp2_with (at_builtin; refine wpList_append_row (C := attC) rfl (.tmp 5) (.tmp 6) 39 rfl w.heap.size 46 i0 (av noAtt) 48 Try.underlying39 hi hz0 hz1 hz2 rfl _ 0 [] rfl (owns_none w 46 5) _ xs rfl (HV.out.below hB (Nat.le_refl _)) (by unfold maxLen; omega) (by omega) (by simp) ?_; intro v3 w3 hown3 hgrow3)
    go_ret
    refine ⟨_, rfl, ?_, hB.grown hgrow3 (by simp) (fun j hj => own_base (owns_none w 46 5) hj)⟩
    have h : w3.ownsRow w.heap.size 46 attC.m v3 (0 + xs.length) ([] ++ fl attC xs) := hown3
    rw [Nat.zero_add, List.nil_append] at h
    exact h

end Go.Proofs.Ytmbjjaflgdfihaa

/- A12: Part -/
namespace Go.Proofs.Ytmbjjaflgdfihaa
open Go.RowKit
set_option linter.unusedVariables false

/-- Is an attribute in the part? -/
def partB (ks : List Key) (blk : Bool) (a : Att) : Bool :=
  match fnd ks a.key with
  | none => false
  | some k => k.blk == blk
def part5 (ks : List Key) (blk : Bool) (xs : List Att) : List Att := xs.filter (partB ks blk)
theorem part_yes {ks : List Key} {blk : Bool} {xs : List Att} {k : Nat} (h : k < xs.length) (hb : partB ks blk xs[k] = true) : part5 ks blk (xs.take (k + 1)) = part5 ks blk (xs.take k) ++ [xs[k]] := by
  unfold part5; rw [atake_snoc h, List.filter_append]; simp [hb]
theorem part_no {ks : List Key} {blk : Bool} {xs : List Att} {k : Nat} (h : k < xs.length) (hb : partB ks blk xs[k] = false) : part5 ks blk (xs.take (k + 1)) = part5 ks blk (xs.take k) := by
  unfold part5; rw [atake_snoc h, List.filter_append]; simp [hb]
theorem part_le (ks : List Key) (blk : Bool) (xs : List Att) : (part5 ks blk xs).length ≤ xs.length := List.length_filter_le _ _
theorem part_end (ks : List Key) (blk : Bool) (xs : List Att) : part5 ks blk (xs.take xs.length) = part5 ks blk xs := by rw [List.take_of_length_le (Nat.le_refl _)]
theorem partB_none {ks : List Key} {blk : Bool} {a : Att} (h : fnd ks a.key = none) : partB ks blk a = false := by unfold partB; rw [h]
theorem partB_some {ks : List Key} {blk : Bool} {a : Att} {k : Key} (h : fnd ks a.key = some k) : partB ks blk a = (k.blk == blk) := by unfold partB; rw [h]

/-- k attributes are gone over. -/
def PartRel (w : World) (ks : List Key) (blk : Bool) (xs : List Att) (k : Nat) (v : Value) (wr : World) : Prop := Own5 w wr v (part5 ks blk (xs.take k)) ∧ Below w.heap.size w wr
theorem part_init (w : World) (ks : List Key) (blk : Bool) (xs : List Att) {W : World} (hB : Below w.heap.size w W) : PartRel w ks blk xs 0 (.slice none 0 0) W := ⟨own5_nil _ _, hB⟩
theorem part_stay {w wr w2 : World} {ks : List Key} {blk : Bool} {xs : List Att} {k : Nat} {v : Value} (h : PartRel w ks blk xs k v wr) (hb : Below wr.heap.size wr w2) (hk : k < xs.length) (hn : partB ks blk xs[k] = false) : PartRel w ks blk xs (k + 1) v w2 := by
  obtain ⟨h1, h2⟩ := h
  refine ⟨?_, below_add h2 hb h2.size⟩
  rw [part_no hk hn]
  exact owns_below h1 hb
theorem part_more {w wr w2 w3 : World} {ks : List Key} {blk : Bool} {xs : List Att} {k : Nat} {v v3 : Value} (h : PartRel w ks blk xs k v wr) (hb : Below wr.heap.size wr w2) (hk : k < xs.length) (hn : partB ks blk xs[k] = true)
    (ho : w3.ownsRow w.heap.size 46 5 v3 ((part5 ks blk (xs.take k)).length + 1) (fl attC (part5 ks blk (xs.take k)) ++ fl attC [xs[k]])) (hg : w2.grownBy w3 v.ownBlock) : PartRel w ks blk xs (k + 1) v3 w3 := by
  obtain ⟨h1, h2⟩ := h
  refine ⟨?_, (below_add h2 hb h2.size).grown hg (below_add h2 hb h2.size).size (fun j hj => own_base h1 hj)⟩
  rw [part_yes hk hn]
  unfold Own5
  rw [fl_app, List.length_append]
  exact ho

set_option maxRecDepth 100000 in
set_option maxHeartbeats 1000000 in
theorem part_any (p : Value) (ks : List Key) (v : Value) (xs : List Att) (blk : Bool) (w : World) (hs : Sch w p ks) (hv : Arow w v xs) (hW : ∀ a ∈ xs, AttW a) (hl : xs.length ≤ 1000) :
    Calls Try.prog 20 #[p, v, .bool blk] w fun e w' => ∃ u, e = .returned u ∧ Own5 w w' u (part5 ks blk xs) ∧ Below w.heap.size w w' := by
  obtain ⟨i0, hi, hz0, hz1, hz2⟩ := info_att5
  obtain ⟨a1, cap1, rfl⟩ := hv.shape
  by_cases h0 : 0 < xs.length
  · obtain ⟨b1, o1, rfl, -, -, -, hbl, hat⟩ := Arow.opn hv h0
    have HAT := Lib.hid hat
    have HS := Lib.hid hs
    have HWF := Lib.hid hW
    clear hv hs hat hW
    go_enter Try.func20, Try.ntmps20
    go_wp2
    go_loopw [7, 14] (fun s7 s14 wr => ∃ k : Nat, k ≤ xs.length ∧ s14 = .int .i64 k ∧ PartRel w ks blk xs k s7 wr) (fun _ s14 _ => xs.length - (intOf s14).toNat)
    case atStart => exact ⟨0, Nat.zero_le _, rfl, part_init w ks blk xs (Below.refl _ _)⟩
    case round =>
      obtain ⟨k, hk, rfl, hR⟩ := hrel
      by_cases hlt : k < xs.length
      · obtain ⟨c0, c1, c2, c3, c4⟩ := (HAT.out k hlt).below hR.2 hbl
        have hstay := fun w2 hb hn => part_stay (w2 := w2) hR hb hlt hn
        have hmore := fun w2 w3 v3 hb hn ho hg => part_more (w2 := w2) (w3 := w3) (v3 := v3) hR hb hlt hn ho hg
        have hwk := (HWF.out _ (List.getElem_mem hlt)).key
        have hown := hR.1
        have hpl := part_le ks blk (xs.take k)
        rw [List.length_take] at hpl
        have HF := Lib.hid (fun w1 (hb : Below w.heap.size w w1) => find_any p ks xs[k].key w1 (HS.out.below hb (Nat.le_refl _)) hwk)
        have HBW := Lib.hid hR.2
        have hsz := hR.2.size
        clear hR hwk
        have HST := Lib.hid hstay
        have HMO := Lib.hid hmore
        have HO := Lib.hid hown
        clear hstay hmore hown
        have hPN := fun (h : fnd ks xs[k].key = none) => partB_none (blk := blk) h
        have hPS := fun key (h : fnd ks xs[k].key = some key) => partB_some (blk := blk) h
        generalize xs[k] = x at *
        obtain ⟨x1, x2, x3, x4, x5⟩ := x
        simp only at c0 c1 c2 c3 c4 hPN hPS HF
        have hB1 : Below wr.heap.size wr (wr.alloc (.cells #[.int .i64 x1, .int .u8 x2, .int .i64 x3, .int .u64 x4, .string x5] 46)) := (Below.refl _ _).alloc (Nat.le_refl _) _
        have hbx := ABox.box ⟨x1, x2, x3, x4, x5⟩ wr 46
        have HF2 := Lib.hid (HF.out _ (below_add HBW.out hB1 HBW.out.size))
        clear HF
        cases hf : fnd ks x1 with
        | none =>
          have HN := Lib.hid (hPN hf)
          have HF3 := HF2.out
          rw [fndV_none hf] at HF3
          have HF4 := Lib.hid HF3
          clear HF3 HF2 hPN hPS hf hbx
          go_wp2_with (go_at_call 35; refine HF4.out.mono ?_; rintro e w1 ⟨rfl, hb1⟩)
          go_roundw
          case rel => exact ⟨k + 1, by omega, by go_num, HST.out _ ((below_add hB1 hb1 hB1.size).alloc (below_add hB1 hb1 hB1.size).size _) HN.out⟩
          case measure => simp [intOf]; omega
        | some key =>
          have HN := Lib.hid (hPS key hf)
          have HF3 := HF2.out
          rw [fndV_some hf] at HF3
          have HF4 := Lib.hid HF3
          clear HF3 HF2 hPN hPS hf
          obtain ⟨y1, y2, y3, y4, y5, y6⟩ := key
          by_cases hy : y2 = blk
          · subst hy
            have HN2 := Lib.hid (show partB ks y2 ⟨x1, x2, x3, x4, x5⟩ = true by rw [HN.out]; simp)
            clear HN
            go_wp2_with (first
              | (go_at_call 35; refine HF4.out.mono ?_; rintro e w1 ⟨rfl, hb1⟩; have hE := (below_add hB1 hb1 hB1.size).alloc (below_add hB1 hb1 hB1.size).size (.cells (kca ⟨y1, y2, y3, y4, y5, y6⟩) 48); obtain ⟨d0, d1, d2, d3, d4⟩ := (hbx.below hb1 (by simp)).below ((Below.refl _ _).alloc (Nat.le_refl _) (.cells (kca ⟨y1, y2, y3, y4, y5, y6⟩) 48)) (by have := hb1.size; simp at this; omega); have hq : w.heap.size ≤ w1.heap.size := (by have := hb1.size; simp at this; omega))
              | (at_builtin; go_loud (refine wpList_append_row (C := attC) rfl (.tmp 32) (.tmp 34) 39 rfl w.heap.size 46 i0 (av noAtt) 48 Try.underlying39 hi hz0 hz1 hz2 rfl _ _ _ rfl (owns_below HO.out (hE.alloc hE.size _)) _ [⟨x1, x2, x3, x4, x5⟩] rfl (row_new1 w1 _ ⟨x1, x2, x3, x4, x5⟩ 46) (by unfold maxLen; simp; omega) (by simp; omega) (by simp; omega) ?_); intro v3 w3 hown3 hgrow3))
            have HC := Lib.hid (HMO.out _ _ v3 (hE.alloc hE.size _) HN2.out hown3 hgrow3)
            go_roundw
            case rel => exact ⟨k + 1, by omega, by go_num, HC.out⟩
            case measure => simp [intOf]; omega
          · have HN2 := Lib.hid (show partB ks blk ⟨x1, x2, x3, x4, x5⟩ = false by rw [HN.out]; simpa using hy)
            have e1 : (y2 == blk) = false := by simpa using hy
            clear HN hy hbx
            go_wp2_with (go_at_call 35; refine HF4.out.mono ?_; rintro e w1 ⟨rfl, hb1⟩)
            go_roundw
            case rel => exact ⟨k + 1, by omega, by go_num, HST.out _ ((below_add hB1 hb1 hB1.size).alloc (below_add hB1 hb1 hB1.size).size _) HN2.out⟩
            case measure => simp [intOf]; omega
      · obtain rfl : k = xs.length := by omega
        have HR := Lib.hid hR
        clear hR
        go_wp2
        go_ret
        have h := HR.out
        unfold PartRel at h
        rw [part_end] at h
        exact ⟨_, rfl, h⟩
  · obtain rfl : xs = [] := List.eq_nil_of_length_eq_zero (by omega)
    clear hv h0 hl hs hW
    go_enter Try.func20, Try.ntmps20
    go_wp2
    refine wp_loop_rounds 1 ?_
    rw [rounds_succ]
    go_wp2
    go_ret
    exact ⟨_, rfl, own5_nil _ _, Below.refl _ _⟩
end Go.Proofs.Ytmbjjaflgdfihaa

/- A15: wellFormed -/
namespace Go.Proofs.Ytmbjjaflgdfihaa
open Go.RowKit
set_option linter.unusedVariables false

def okV (xs : List Att) : Bool := xs.all fun a => vmay a.k a.n a.f a.s
def okF5 (ks : List Key) (xs : List Att) : Bool := xs.all fun a => fitsB ks a.key a.k a.n a.f a.s
/-- May a set be, but for the schema; what May answers. -/
def wf5 (xs : List Att) : Bool := decide (Rise xs) && decide (xs.length ≤ 64) && okV xs
def may5 (ks : List Key) (xs : List Att) : Int := if wf5 xs then (if okF5 ks xs then 0 else 4) else 3
theorem okV_step {xs : List Att} {k : Nat} (h : k < xs.length) (hp : okV (xs.take k) = true) (hx : vmay xs[k].k xs[k].n xs[k].f xs[k].s = true) : okV (xs.take (k + 1)) = true := by
  unfold okV at *; rw [atake_snoc h, List.all_append, hp]; simpa using hx
theorem okV_bad {xs : List Att} {k : Nat} (h : k < xs.length) (hx : vmay xs[k].k xs[k].n xs[k].f xs[k].s = false) : okV xs = false := by
  unfold okV; rw [List.all_eq_false]; exact ⟨_, List.getElem_mem h, by rw [hx]; exact Bool.false_ne_true⟩
theorem okV_end {xs : List Att} (hp : okV (xs.take xs.length) = true) : okV xs = true := by rwa [List.take_of_length_le (Nat.le_refl _)] at hp
theorem okF_step {ks : List Key} {xs : List Att} {k : Nat} (h : k < xs.length) (hp : okF5 ks (xs.take k) = true) (hx : fitsB ks xs[k].key xs[k].k xs[k].n xs[k].f xs[k].s = true) : okF5 ks (xs.take (k + 1)) = true := by
  unfold okF5 at *; rw [atake_snoc h, List.all_append, hp]; simpa using hx
theorem okF_bad {ks : List Key} {xs : List Att} {k : Nat} (h : k < xs.length) (hx : fitsB ks xs[k].key xs[k].k xs[k].n xs[k].f xs[k].s = false) : okF5 ks xs = false := by
  unfold okF5; rw [List.all_eq_false]; exact ⟨_, List.getElem_mem h, by rw [hx]; exact Bool.false_ne_true⟩
theorem okF_end {ks : List Key} {xs : List Att} (hp : okF5 ks (xs.take xs.length) = true) : okF5 ks xs = true := by rwa [List.take_of_length_le (Nat.le_refl _)] at hp
theorem wf_badV {xs : List Att} (h : okV xs = false) : wf5 xs = false := by unfold wf5; rw [h, Bool.and_false]
theorem wf_badR {xs : List Att} (h : ¬ Rise xs) : wf5 xs = false := by unfold wf5; rw [decide_eq_false h]; rfl
theorem wf_badL {xs : List Att} (h : 64 < xs.length) : wf5 xs = false := by unfold wf5; rw [show decide (xs.length ≤ 64) = false by rw [decide_eq_false_iff_not]; omega]; simp
theorem wf_good {xs : List Att} (h1 : Rise xs) (h2 : xs.length ≤ 64) (h3 : okV xs = true) : wf5 xs = true := by unfold wf5; rw [decide_eq_true h1, decide_eq_true h2, h3]; rfl
theorem may_3 {ks : List Key} {xs : List Att} (h : wf5 xs = false) : may5 ks xs = 3 := by unfold may5; rw [h]; rfl
theorem may_4 {ks : List Key} {xs : List Att} (h : wf5 xs = true) (hf : okF5 ks xs = false) : may5 ks xs = 4 := by unfold may5; rw [h, hf]; rfl
theorem may_0 {ks : List Key} {xs : List Att} (h : wf5 xs = true) (hf : okF5 ks xs = true) : may5 ks xs = 0 := by unfold may5; rw [h, hf]; rfl
theorem rise_zero {xs : List Att} : Rise (xs.take 0) := by simp [Rise]

/-- The worlds of the round's test. -/
def WfC (B b o : Nat) (x y : Att) (two : Bool) (W W' : World) : Prop := ABox B x W' ∧ (two = true → AAt b o y W') ∧ Below W.heap.size W W'
theorem WfC.start {B b o : Nat} {x y : Att} {W : World} (h : ABox B x W) : WfC B b o x y false W W := ⟨h, fun h => absurd h Bool.false_ne_true, Below.refl _ _⟩
theorem WfC.start2 {B b o : Nat} {x y : Att} {W : World} (h : ABox B x W) (h2 : AAt b o y W) : WfC B b o x y true W W := ⟨h, fun _ => h2, Below.refl _ _⟩
theorem WfC.below {B b o : Nat} {x y : Att} {two : Bool} {W w w' : World} (h : WfC B b o x y two W w) (hb : Below w.heap.size w w') : WfC B b o x y two W w' :=
  ⟨h.1.below hb h.1.lt, fun ht => (h.2.1 ht).below hb (World.block_lt_of_cell? _ _ (h.2.1 ht).1), below_add h.2.2 hb h.2.2.size⟩

set_option maxRecDepth 100000 in
set_option maxHeartbeats 600000 in
theorem wf_any (v : Value) (xs : List Att) (w : World) (hv : Arow w v xs) (hW : ∀ a ∈ xs, AttW a) :
    Calls Try.prog 33 #[v] w fun e w' => e = .returned (.bool (wf5 xs)) ∧ Below w.heap.size w w' := by
  have hl := hv.len
  obtain ⟨a1, cap1, rfl⟩ := hv.shape
  by_cases hlong : 64 < xs.length
  · have HN := Lib.hid (wf_badL hlong)
    have d1 : decide ((64 : Int) < (xs.length : Int)) = true := by rw [decide_eq_true_iff]; omega
    clear hv hW hlong
    go_enter Try.func33, Try.ntmps33
    go_wp2
    go_ret
    exact ⟨by rw [HN.out]; rfl, Below.refl _ _⟩
  have d1 : decide ((64 : Int) < (xs.length : Int)) = false := by rw [decide_eq_false_iff_not]; omega
  by_cases h0 : 0 < xs.length
  · obtain ⟨b1, o1, rfl, -, -, -, hbl, hat⟩ := Arow.opn hv h0
    have HAT := Lib.hid hat
    have HWF := Lib.hid hW
    have HLG := Lib.hid (show xs.length ≤ 64 by omega)
    clear hv hat hW hlong
    go_enter Try.func33, Try.ntmps33
    go_wp2
    go_loopw [10] (fun s10 wr => ∃ k : Nat, k ≤ xs.length ∧ s10 = .int .i64 k ∧ Hid (Rise (xs.take k) ∧ okV (xs.take k) = true) ∧ Below w.heap.size w wr) (fun s10 _ => xs.length - (intOf s10).toNat)
    case atStart => exact ⟨0, Nat.zero_le _, rfl, Lib.hid ⟨rise_zero, rfl⟩, Below.refl _ _⟩
    case round =>
      obtain ⟨k, hk, rfl, HP, hb⟩ := hrel
      by_cases hlt : k < xs.length
      · obtain ⟨c0, c1, c2, c3, c4⟩ := (HAT.out k hlt).below hb hbl
        have hsz := hb.size
        have hw := HWF.out _ (List.getElem_mem hlt)
        have HM := Lib.hid (fun w => vmay_any xs[k].k xs[k].n xs[k].f xs[k].s w hw.f0 hw.f1)
        have hVS := fun h => okV_step hlt HP.out.2 h
        have hVB := fun h => wf_badV (okV_bad hlt h)
        clear hw
        cases k with
        | zero =>
          have hR1 : Rise (xs.take (0 + 1)) := rise_one
          have HR1 := Lib.hid hR1
          clear hR1
          generalize xs[0] = x at *
          obtain ⟨x1, x2, x3, x4, x5⟩ := x
          simp only at c0 c1 c2 c3 c4 HM hVS hVB
          generalize vmay x2 x3 x4 x5 = m at *
          have hbx := ABox.box ⟨x1, x2, x3, x4, x5⟩ wr 46
          simp only [Nat.zero_mul, Nat.add_zero] at c0 c1 c2 c3 c4
          go_wp2_with fail
          have hC0 : WfC wr.heap.size b1 o1 ⟨x1, x2, x3, x4, x5⟩ ⟨x1, x2, x3, x4, x5⟩ false (wr.alloc (.cells (aca ⟨x1, x2, x3, x4, x5⟩) 46)) (wr.alloc (.cells (aca ⟨x1, x2, x3, x4, x5⟩) 46)) := WfC.start hbx
          have KM := Lib.hid (fun w9 (hS : WfC wr.heap.size b1 o1 ⟨x1, x2, x3, x4, x5⟩ ⟨x1, x2, x3, x4, x5⟩ false (wr.alloc (.cells (aca ⟨x1, x2, x3, x4, x5⟩) 46)) w9) => (HM.out w9).mono fun e w' (h : _ ∧ _) => (⟨h.1, hS.below h.2⟩ : _ ∧ WfC wr.heap.size b1 o1 ⟨x1, x2, x3, x4, x5⟩ ⟨x1, x2, x3, x4, x5⟩ false (wr.alloc (.cells (aca ⟨x1, x2, x3, x4, x5⟩) 46)) w'))
          have HB := Lib.hid (hb.alloc hb.size (.cells (aca ⟨x1, x2, x3, x4, x5⟩) 46))
          clear hbx c0 c1 c2 c3 c4 HM hb
          refine region_classw (C := WfC wr.heap.size b1 o1 ⟨x1, x2, x3, x4, x5⟩ ⟨x1, x2, x3, x4, x5⟩ false (wr.alloc (.cells (aca ⟨x1, x2, x3, x4, x5⟩) 46))) (by kernel_rfl) (by kernel_rfl) (hC0.below (Below.refl _ _).drew) ?_
          repeat (first
            | (refine w_skip (by rfl) (by rfl) ?_
               simp only [Act.put, List.setIfInBounds_toArray, List.set_cons_zero, List.set_cons_succ])
            | (first
                 | refine w_val (v := ?_) (by rfl) (fun w9 hS => ?_) ?_
                 | refine w_valg (v := ?_) (by rfl) (by rfl) (fun w9 hS => ?_) ?_
               rotate_left
               · obtain ⟨⟨g0, g1, g2, g3, g4⟩, -, -⟩ := hS
                 go_simp
                 try with_reducible rfl
               simp only [Act.put, List.setIfInBounds_toArray, List.set_cons_zero, List.set_cons_succ])
            | (first
                 | refine w_call (by rfl) (fun w9 hS => ?_) KM.out ?_
                 | refine w_callg (by rfl) (by rfl) (fun w9 hS => ?_) KM.out ?_
               · obtain ⟨⟨g0, g1, g2, g3, g4⟩, -, -⟩ := hS
                 go_simp
               simp only [Act.put, List.setIfInBounds_toArray, List.set_cons_zero, List.set_cons_succ]))
          refine w_end ?_
          intro w5 T5
          cases m
          · have HVB := Lib.hid (hVB rfl)
            clear hVS hVB
            go_wp2_with fail
            go_ret
            exact ⟨by rw [HVB.out]; rfl, below_add HB.out T5.2.2 HB.out.size⟩
          · have HVS := Lib.hid (hVS rfl)
            have HT := Lib.hid T5.2.2
            clear hVS hVB
            go_wp2_with fail
            go_roundw
            case rel => exact ⟨0 + 1, by omega, by go_num, Lib.hid ⟨HR1.out, HVS.out⟩, below_add HB.out HT.out HB.out.size⟩
            case measure => simp [intOf]; omega
        | succ j =>
          have hjl : j < xs.length := by omega
          obtain ⟨p0, p1, p2, p3, p4⟩ := (HAT.out j hjl).below hb hbl
          have hRS := fun h => rise_step hlt HP.out.1 h
          have hRB := fun h => wf_badR (rise_bad hlt h)
          have hj1 : ((j + 1 : Nat) : Int) = (j : Int) + 1 := by omega
          have hwr : IntKind.i64.wrap (j : Int) = (j : Int) := by have := HLG.out; rw [IntKind.wrap_i64]; omega
          rw [hj1]
          generalize xs[j + 1] = x at *
          generalize xs[j] = y at *
          obtain ⟨x1, x2, x3, x4, x5⟩ := x
          obtain ⟨y1, y2, y3, y4, y5⟩ := y
          simp only at c0 c1 c2 c3 c4 p0 p1 p2 p3 p4 HM hVS hVB hRS hRB
          generalize vmay x2 x3 x4 x5 = m at *
          have hbx := ABox.box ⟨x1, x2, x3, x4, x5⟩ wr 46
          have HC0 := Lib.hid (WfC.start2 (x := ⟨x1, x2, x3, x4, x5⟩) (y := ⟨y1, y2, y3, y4, y5⟩) hbx (AAt.below (a := ⟨y1, y2, y3, y4, y5⟩) ⟨p0, p1, p2, p3, p4⟩ ((Below.refl _ _).alloc (Nat.le_refl _) (.cells (aca ⟨x1, x2, x3, x4, x5⟩) 46)) (by omega)))
          have KM := Lib.hid (fun w9 (hS : WfC wr.heap.size b1 (o1 + j * 5) ⟨x1, x2, x3, x4, x5⟩ ⟨y1, y2, y3, y4, y5⟩ true (wr.alloc (.cells (aca ⟨x1, x2, x3, x4, x5⟩) 46)) w9) => (HM.out w9).mono fun e w' (h : _ ∧ _) => (⟨h.1, hS.below h.2⟩ : _ ∧ WfC wr.heap.size b1 (o1 + j * 5) ⟨x1, x2, x3, x4, x5⟩ ⟨y1, y2, y3, y4, y5⟩ true (wr.alloc (.cells (aca ⟨x1, x2, x3, x4, x5⟩) 46)) w'))
          have HB := Lib.hid (hb.alloc hb.size (.cells (aca ⟨x1, x2, x3, x4, x5⟩) 46))
          go_wp2_with fail
          clear hbx c0 c1 c2 c3 c4 p0 p1 p2 p3 p4 HM hb
          by_cases hle : x1 ≤ y1
          · have e1 : decide (x1 ≤ y1) = true := by simpa using hle
            have HVB := Lib.hid (hRB (by omega))
            clear hVS hVB hRS hRB hle
            refine region_classw (C := WfC wr.heap.size b1 (o1 + j * 5) ⟨x1, x2, x3, x4, x5⟩ ⟨y1, y2, y3, y4, y5⟩ true (wr.alloc (.cells (aca ⟨x1, x2, x3, x4, x5⟩) 46))) (by kernel_rfl) (by kernel_rfl) (HC0.out.below (Below.refl _ _).drew) ?_
            repeat (first
              | (refine w_skip (by rfl) (by rfl) ?_
                 simp only [Act.put, List.setIfInBounds_toArray, List.set_cons_zero, List.set_cons_succ])
              | (first
                   | refine w_val (v := ?_) (by rfl) (fun w9 hS => ?_) ?_
                   | refine w_valg (v := ?_) (by rfl) (by rfl) (fun w9 hS => ?_) ?_
                 rotate_left
                 · obtain ⟨⟨g0, g1, g2, g3, g4⟩, hy, -⟩ := hS
                   obtain ⟨f0, f1, f2, f3, f4⟩ := hy rfl
                   go_simp
                   try with_reducible rfl
                 simp only [Act.put, List.setIfInBounds_toArray, List.set_cons_zero, List.set_cons_succ]))
            refine w_end ?_
            intro w5 T5
            go_wp2_with fail
            go_ret
            exact ⟨by rw [HVB.out]; rfl, below_add HB.out T5.2.2 HB.out.size⟩
          · have e1 : decide (x1 ≤ y1) = false := by simpa using hle
            have HRS := Lib.hid (hRS (by omega))
            clear hRS hRB hle
            refine region_classw (C := WfC wr.heap.size b1 (o1 + j * 5) ⟨x1, x2, x3, x4, x5⟩ ⟨y1, y2, y3, y4, y5⟩ true (wr.alloc (.cells (aca ⟨x1, x2, x3, x4, x5⟩) 46))) (by kernel_rfl) (by kernel_rfl) (HC0.out.below (Below.refl _ _).drew) ?_
            repeat (first
              | (refine w_skip (by rfl) (by rfl) ?_
                 simp only [Act.put, List.setIfInBounds_toArray, List.set_cons_zero, List.set_cons_succ])
              | (first
                   | refine w_val (v := ?_) (by rfl) (fun w9 hS => ?_) ?_
                   | refine w_valg (v := ?_) (by rfl) (by rfl) (fun w9 hS => ?_) ?_
                 rotate_left
                 · obtain ⟨⟨g0, g1, g2, g3, g4⟩, hy, -⟩ := hS
                   obtain ⟨f0, f1, f2, f3, f4⟩ := hy rfl
                   go_simp
                   try with_reducible rfl
                 simp only [Act.put, List.setIfInBounds_toArray, List.set_cons_zero, List.set_cons_succ])
              | (first
                   | refine w_call (by rfl) (fun w9 hS => ?_) KM.out ?_
                   | refine w_callg (by rfl) (by rfl) (fun w9 hS => ?_) KM.out ?_
                 · obtain ⟨⟨g0, g1, g2, g3, g4⟩, hy, -⟩ := hS
                   obtain ⟨f0, f1, f2, f3, f4⟩ := hy rfl
                   go_simp
                 simp only [Act.put, List.setIfInBounds_toArray, List.set_cons_zero, List.set_cons_succ]))
            refine w_end ?_
            intro w5 T5
            cases m
            · have HVB := Lib.hid (hVB rfl)
              clear hVS hVB
              go_wp2_with fail
              go_ret
              exact ⟨by rw [HVB.out]; rfl, below_add HB.out T5.2.2 HB.out.size⟩
            · have HVS := Lib.hid (hVS rfl)
              have HT := Lib.hid T5.2.2
              clear hVS hVB
              go_wp2_with fail
              go_roundw
              case rel => exact ⟨j + 1 + 1, by omega, by go_num, Lib.hid ⟨HRS.out, HVS.out⟩, below_add HB.out HT.out HB.out.size⟩
              case measure => simp [intOf]; omega
      · obtain rfl : k = xs.length := by omega
        have HB := Lib.hid hb
        have HG := Lib.hid (wf_good (rise_end HP.out.1) HLG.out (okV_end HP.out.2))
        clear hb
        go_wp2
        go_ret
        exact ⟨by rw [HG.out]; rfl, HB.out⟩
  · obtain rfl : xs = [] := List.eq_nil_of_length_eq_zero (by omega)
    clear hv h0 hl hW hlong
    go_enter Try.func33, Try.ntmps33
    go_wp2
    refine wp_loop_rounds 1 ?_
    rw [rounds_succ]
    go_wp2
    go_ret
    exact ⟨rfl, Below.refl _ _⟩
end Go.Proofs.Ytmbjjaflgdfihaa

/- A16: May, and the reference's -/
namespace Go.Proofs.Ytmbjjaflgdfihaa
open Go.RowKit
set_option linter.unusedVariables false

theorem ret_may {a b : Int} (h : a = b) : Ending.returned (.int .i64 a) = .returned (.int .i64 b) := by rw [h]

set_option maxRecDepth 100000 in
set_option maxHeartbeats 1000000 in
theorem may_any5 (p : Value) (ks : List Key) (v : Value) (xs : List Att) (w : World) (hs : Sch w p ks) (hv : Arow w v xs) (hW : ∀ a ∈ xs, AttW a) :
    Calls Try.prog 17 #[p, v] w fun e w' => e = .returned (.int .i64 (may5 ks xs)) ∧ Below w.heap.size w w' := by
  have hl := hv.len
  have hwf := wf_any v xs w hv hW
  cases hw5 : wf5 xs
  · rw [hw5] at hwf
    have HWF := Lib.hid hwf
    have HN := Lib.hid (may_3 (ks := ks) hw5)
    clear hv hs hW hwf hw5
    go_enter Try.func17, Try.ntmps17
    go_wp2_with (go_at_call 33; refine HWF.out.mono ?_; rintro e w1 ⟨rfl, hb1⟩)
    go_ret
    exact ⟨ret_may HN.out.symm, hb1⟩
  rw [hw5] at hwf
  have HWF := Lib.hid hwf
  have H5 := Lib.hid hw5
  clear hwf hw5
  obtain ⟨a1, cap1, rfl⟩ := hv.shape
  by_cases h0 : 0 < xs.length
  · obtain ⟨b1, o1, rfl, -, -, -, hbl, hat⟩ := Arow.opn hv h0
    have HAT := Lib.hid hat
    have HWA := Lib.hid hW
    have HS := Lib.hid hs
    clear hv hat hW hs
    go_enter Try.func17, Try.ntmps17
    go_wp2_with (go_at_call 33; refine HWF.out.mono ?_; rintro e w1 ⟨rfl, hb1⟩)
    have HB1 := Lib.hid hb1
    clear hb1
    go_loopw [12] (fun s12 wr => ∃ k : Nat, k ≤ xs.length ∧ s12 = .int .i64 k ∧ Hid (okF5 ks (xs.take k) = true) ∧ Below w.heap.size w wr) (fun s12 _ => xs.length - (intOf s12).toNat)
    case atStart => exact ⟨0, Nat.zero_le _, rfl, Lib.hid rfl, HB1.out⟩
    case round =>
      obtain ⟨k, hk, rfl, HP, hb⟩ := hrel
      by_cases hlt : k < xs.length
      · obtain ⟨c0, c1, c2, c3, c4⟩ := (HAT.out k hlt).below hb hbl
        have hw := HWA.out _ (List.getElem_mem hlt)
        have HF := Lib.hid (fun w1 (h1 : Below w.heap.size w w1) => fits_any p ks xs[k].key xs[k].k xs[k].n xs[k].f xs[k].s w1 (HS.out.below h1 (Nat.le_refl _)) hw.key hw.f0 hw.f1)
        have hFS := fun h => okF_step hlt HP.out h
        have hFB := fun h => may_4 H5.out (okF_bad (ks := ks) hlt h)
        clear hw
        generalize xs[k] = x at *
        obtain ⟨x1, x2, x3, x4, x5⟩ := x
        simp only at c0 c1 c2 c3 c4 HF hFS hFB
        have hB1 := hb.alloc hb.size (.cells (aca ⟨x1, x2, x3, x4, x5⟩) 46)
        have hbx := ABox.box ⟨x1, x2, x3, x4, x5⟩ wr 46
        have HFX := Lib.hid (HF.out _ hB1)
        have HB := Lib.hid hB1
        clear HF hB1 hb
        generalize fitsB ks x1 x2 x3 x4 x5 = m at *
        cases m
        · have HN := Lib.hid (hFB rfl)
          clear hFS hFB
          go_wp2_with (go_at_call 34; refine HFX.out.mono ?_; rintro e w2 ⟨rfl, hb2⟩)
          go_ret
          exact ⟨ret_may HN.out.symm, below_add HB.out hb2 HB.out.size⟩
        · have HN := Lib.hid (hFS rfl)
          clear hFS hFB
          go_wp2_with (go_at_call 34; refine HFX.out.mono ?_; rintro e w2 ⟨rfl, hb2⟩)
          go_roundw
          case rel => exact ⟨k + 1, by omega, by go_num, HN, below_add HB.out hb2 HB.out.size⟩
          case measure => simp [intOf]; omega
      · obtain rfl : k = xs.length := by omega
        have HB := Lib.hid hb
        have HG := Lib.hid (may_0 H5.out (okF_end HP.out))
        clear hb
        go_wp2
        go_ret
        exact ⟨ret_may HG.out.symm, HB.out⟩
  · obtain rfl : xs = [] := List.eq_nil_of_length_eq_zero (by omega)
    clear hv h0 hl hW hs H5
    go_enter Try.func17, Try.ntmps17
    go_wp2_with (go_at_call 33; refine HWF.out.mono ?_; rintro e w1 ⟨rfl, hb1⟩)
    refine wp_loop_rounds 1 ?_
    rw [rounds_succ]
    go_wp2
    go_ret
    exact ⟨rfl, hb1⟩

end Go.Proofs.Ytmbjjaflgdfihaa

/- C1: changes as plain data -/
namespace Go.Proofs.Ytmbjjaflgdfihaa
open Go.RowKit
set_option linter.unusedVariables false

/-- A change: its key, whether it is gone, and the value's kind, number, bits, text. -/
structure Chg where
  key : Int
  g : Bool
  k : Int
  n : Int
  f : Int
  s : ByteArray
deriving DecidableEq

@[reducible] def cv (a : Chg) : Value := .agg #[.int .i64 a.key, .bool a.g, .int .u8 a.k, .int .i64 a.n, .int .u64 a.f, .string a.s]
@[reducible] def cc (a : Chg) : List Value := [.int .i64 a.key, .bool a.g, .int .u8 a.k, .int .i64 a.n, .int .u64 a.f, .string a.s]
@[reducible] def cca (a : Chg) : Array Value := #[.int .i64 a.key, .bool a.g, .int .u8 a.k, .int .i64 a.n, .int .u64 a.f, .string a.s]
@[reducible] def noChg : Chg := ⟨0, false, 0, 0, 0, ⟨#[]⟩⟩
instance : Inhabited Chg := ⟨noChg⟩

theorem cc_one (a : Chg) : ∀ u ∈ cc a, u.oneCell' = true := by
  intro u hu
  simp at hu
  rcases hu with rfl | rfl | rfl | rfl | rfl | rfl <;> rfl
/-- How a change lies: six cells. -/
def chC : Cel Chg := ⟨cc, 6, fun _ => rfl, cc_one, by decide⟩
theorem chC_m : chC.m = 6 := rfl
theorem chC_c (a : Chg) : chC.c a = cc a := rfl

/-- What a change's numbers are within. -/
structure ChgW (a : Chg) : Prop where
  key : (Lit.int .i64 a.key).wf = true
  k : (Lit.int .u8 a.k).wf = true
  n : (Lit.int .i64 a.n).wf = true
  f : (Lit.int .u64 a.f).wf = true
  s : a.s.size ≤ maxLen
theorem ChgW.f0 {a : Chg} (h : ChgW a) : 0 ≤ a.f := by have := Go.bounds_u64 h.f; omega
theorem ChgW.f1 {a : Chg} (h : ChgW a) : a.f < 18446744073709551616 := by have := Go.bounds_u64 h.f; omega

/-- Its six cells at a place; at a block's head. -/
@[reducible] def CAt (b o : Nat) (a : Chg) (w : World) : Prop :=
  w.cell? ⟨b, o, none⟩ = some (.int .i64 a.key) ∧ w.cell? ⟨b, o + 1, none⟩ = some (.bool a.g) ∧ w.cell? ⟨b, o + 2, none⟩ = some (.int .u8 a.k) ∧ w.cell? ⟨b, o + 3, none⟩ = some (.int .i64 a.n) ∧ w.cell? ⟨b, o + 4, none⟩ = some (.int .u64 a.f) ∧ w.cell? ⟨b, o + 5, none⟩ = some (.string a.s)
@[reducible] def CBox (b : Nat) (a : Chg) (w : World) : Prop :=
  w.cell? ⟨b, 0, none⟩ = some (.int .i64 a.key) ∧ w.cell? ⟨b, 1, none⟩ = some (.bool a.g) ∧ w.cell? ⟨b, 2, none⟩ = some (.int .u8 a.k) ∧ w.cell? ⟨b, 3, none⟩ = some (.int .i64 a.n) ∧ w.cell? ⟨b, 4, none⟩ = some (.int .u64 a.f) ∧ w.cell? ⟨b, 5, none⟩ = some (.string a.s)
theorem CAt.below {B b o : Nat} {a : Chg} {w w' : World} (h : CAt b o a w) (hb : Below B w w') (hB : b < B) : CAt b o a w' := by
  obtain ⟨h0, h1, h2, h3, h4, h5⟩ := h
  exact ⟨(hb.cell (p := ⟨b, _, none⟩) hB).trans h0, (hb.cell (p := ⟨b, _, none⟩) hB).trans h1, (hb.cell (p := ⟨b, _, none⟩) hB).trans h2, (hb.cell (p := ⟨b, _, none⟩) hB).trans h3, (hb.cell (p := ⟨b, _, none⟩) hB).trans h4, (hb.cell (p := ⟨b, _, none⟩) hB).trans h5⟩
theorem CBox.below {B b : Nat} {a : Chg} {w w' : World} (h : CBox b a w) (hb : Below B w w') (hB : b < B) : CBox b a w' := by
  obtain ⟨h0, h1, h2, h3, h4, h5⟩ := h
  exact ⟨(hb.cell (p := ⟨b, _, none⟩) hB).trans h0, (hb.cell (p := ⟨b, _, none⟩) hB).trans h1, (hb.cell (p := ⟨b, _, none⟩) hB).trans h2, (hb.cell (p := ⟨b, _, none⟩) hB).trans h3, (hb.cell (p := ⟨b, _, none⟩) hB).trans h4, (hb.cell (p := ⟨b, _, none⟩) hB).trans h5⟩
theorem CBox.box (a : Chg) (w : World) (t : TypeId) : CBox w.heap.size a (w.alloc (.cells (cca a) t)) := by
  refine ⟨?_, ?_, ?_, ?_, ?_, ?_⟩ <;> (rw [cell_of_row _ w.heap.size _ _ t (0, 0) (heap_alloc_new w _)]; rfl)
theorem CBox.lt {b : Nat} {a : Chg} {w : World} (h : CBox b a w) : b < w.heap.size := World.block_lt_of_cell? w _ h.1
theorem CAt.lt {b o : Nat} {a : Chg} {w : World} (h : CAt b o a w) : b < w.heap.size := World.block_lt_of_cell? w _ h.1

/-- A slice of changes that reads as xs. -/
@[reducible] def Crow (w : World) (v : Value) (xs : List Chg) : Prop := Row chC w v xs
theorem Crow.opn {w : World} {a : Option Addr} {n cap : Nat} {xs : List Chg} (h : Crow w (.slice a n cap) xs) (h0 : 0 < xs.length) :
    ∃ b off, a = some ⟨b, off, none⟩ ∧ n = xs.length ∧ xs.length ≤ cap ∧ cap ≤ maxLen ∧ b < w.heap.size ∧ (∀ j (hj : j < xs.length), CAt b (off + j * 6) xs[j] w) := by
  obtain ⟨b, off, ha, hn, hc, hm, hb, hat, -⟩ := Row.opened h h0
  refine ⟨b, off, ha, hn, hc, hm, hb, fun j hj => ⟨?_, ?_, ?_, ?_, ?_, ?_⟩⟩
  · exact hat j hj 0 _ rfl
  · exact hat j hj 1 _ rfl
  · exact hat j hj 2 _ rfl
  · exact hat j hj 3 _ rfl
  · exact hat j hj 4 _ rfl
  · exact hat j hj 5 _ rfl

set_option maxRecDepth 100000 in
theorem info_ch : ∃ i0, Try.prog.info? 86 = some i0 ∧ i0.zero = some (cv noChg) ∧ i0.size = 6 ∧ i0.bytes = 56 := by
  refine ⟨_, rfl, ?_, ?_, ?_⟩ <;> kernel_rfl
set_option maxRecDepth 100000 in
theorem info_at : ∃ i0, Try.prog.info? 46 = some i0 ∧ i0.zero = some (av noAtt) ∧ i0.size = 5 ∧ i0.bytes = 48 := by
  refine ⟨_, rfl, ?_, ?_, ?_⟩ <;> kernel_rfl

def ceq (a b : Chg) : Bool := (a.key == b.key) && ((a.g == b.g) && ((a.k == b.k) && (a.n == b.n) && (a.f == b.f) && (a.s.toList == b.s.toList)))
theorem ceq_iff (a b : Chg) : ceq a b = true ↔ a = b := by
  obtain ⟨a1, a0, a2, a3, a4, a5⟩ := a
  obtain ⟨b1, b0, b2, b3, b4, b5⟩ := b
  have hs : a5.toList = b5.toList ↔ a5 = b5 := by
    rw [ByteArray.toList_eq, ByteArray.toList_eq]
    exact ⟨fun h => Go.WideShapes.bytes_inj h, fun h => by rw [h]⟩
  simp [ceq, hs, and_assoc]
theorem ceq_dec (a b : Chg) : ceq a b = decide (a = b) := by
  rw [Bool.eq_iff_iff, ceq_iff]; simp

set_option maxRecDepth 100000 in
set_option maxHeartbeats 800000 in
theorem chg_in (a b : Chg) (w : World) : (Op.equalIn 10000 86 (cv a) (cv b)).run Try.prog w = .ok (ceq a b) w := by
  obtain ⟨a1, a0, a2, a3, a4, a5⟩ := a
  obtain ⟨b1, b0, b2, b3, b4, b5⟩ := b
  have hS : Try.prog.underlying 86 = some (.struct (Try.prog.fieldsOf 86)) := by kernel_rfl
  have hp : Try.prog.stoodInHeld 86 = false := by kernel_rfl
  have u0 := Try.underlying3
  have ag0 := Try.isAgg3
  have ag4 := Try.isAgg4
  have ag5 := Try.isAgg44
  have z0 := Try.sizeOf3
  have z4 := Try.sizeOf4
  have z5 := Try.sizeOf44
  rw [show (10000 : Nat) = 9999 + 1 from rfl, run_equalIn_agg w 9999 86 _ _ hS hp]
  simp only [Program.fieldsOf, Try.underlying86]
  simp only [Op.eqFields, ne_eq]
  go_simp
  unfold ceq
  by_cases h1 : a1 = b1 <;> by_cases h0 : a0 = b0 <;> by_cases h2 : a2 = b2 <;> by_cases h3 : a3 = b3 <;> by_cases h4 : a4 = b4 <;> by_cases h5 : a5.toList = b5.toList <;> simp [h1, h0, h2, h3, h4, h5]
theorem chg_eql (a b : Chg) (w : World) : (binOp .eql 86 (cv a) (cv b)).run Try.prog w = .ok (.bool (ceq a b)) w := by
  rw [run_eql_struct, chg_in]; rfl
theorem chg_neq (a b : Chg) (w : World) : (binOp .neq 86 (cv a) (cv b)).run Try.prog w = .ok (.bool (!ceq a b)) w := by
  rw [run_neq_struct, chg_in]; rfl

/-- An attribute as a change, and back. -/
@[reducible] def toC (a : Att) : Chg := ⟨a.key, false, a.k, a.n, a.f, a.s⟩
@[reducible] def toA (c : Chg) : Att := ⟨c.key, c.k, c.n, c.f, c.s⟩
/-- A new row of one, of two. -/
theorem crow_one (w : World) (x : Chg) (t : TypeId) : Crow (w.alloc (.cells (cca x) t)) (.slice (some ⟨w.heap.size, 0, none⟩) 1 1) [x] := Row.built (C := chC) w t [x] (by unfold maxLen; simp)
theorem crow_two (w : World) (x y : Chg) (t : TypeId) : Crow (w.alloc (.cells (cca x ++ cca y) t)) (.slice (some ⟨w.heap.size, 0, none⟩) 2 2) [x, y] := Row.built (C := chC) w t [x, y] (by unfold maxLen; simp)
end Go.Proofs.Ytmbjjaflgdfihaa

/- C2: two rows side by side, as plain data -/
namespace Go.Proofs.Ytmbjjaflgdfihaa
open Go.RowKit
set_option linter.unusedVariables false

/-- Of each key that one of two rows has, what each has of it. -/
def sbsIn (x : Chg) (f : List Chg → List (Option Chg × Option Chg)) : List Chg → List (Option Chg × Option Chg)
  | [] => (some x, none) :: f []
  | y :: r => if x.key < y.key then (some x, none) :: f (y :: r) else if y.key < x.key then (none, some y) :: sbsIn x f r else (some x, some y) :: f r
def sbs : List Chg → List Chg → List (Option Chg × Option Chg)
  | [], r => r.map fun y => (none, some y)
  | x :: l, r => sbsIn x (fun s => sbs l s) r
theorem sbs_nn : sbs [] [] = [] := rfl
theorem sbs_cn (x : Chg) (l : List Chg) : sbs (x :: l) [] = (some x, none) :: sbs l [] := rfl
theorem sbs_nc (y : Chg) (r : List Chg) : sbs [] (y :: r) = (none, some y) :: sbs [] r := rfl
theorem sbs_lt {x y : Chg} {l r : List Chg} (h : x.key < y.key) : sbs (x :: l) (y :: r) = (some x, none) :: sbs l (y :: r) := by
  show sbsIn x (fun s => sbs l s) (y :: r) = _
  rw [sbsIn, if_pos h]
theorem sbs_gt {x y : Chg} {l r : List Chg} (h : y.key < x.key) : sbs (x :: l) (y :: r) = (none, some y) :: sbs (x :: l) r := by
  show sbsIn x (fun s => sbs l s) (y :: r) = _
  rw [sbsIn, if_neg (by omega), if_pos h]
  rfl
theorem sbs_eq {x y : Chg} {l r : List Chg} (h1 : ¬ x.key < y.key) (h2 : ¬ y.key < x.key) : sbs (x :: l) (y :: r) = (some x, some y) :: sbs l r := by
  show sbsIn x (fun s => sbs l s) (y :: r) = _
  rw [sbsIn, if_neg h1, if_neg h2]

/-- A pointer to a change, or to none. -/
def Ptr (W : World) (p : Value) : Option Chg → Prop
  | none => p = .pointer none
  | some x => ∃ b o, p = .pointer (some ⟨b, o, none⟩) ∧ CAt b o x W
theorem ptr_none (W : World) : Ptr W (.pointer none) none := rfl
theorem ptr_some {W : World} {b o : Nat} {x : Chg} (h : CAt b o x W) : Ptr W (.pointer (some ⟨b, o, none⟩)) (some x) := ⟨b, o, rfl, h⟩

@[reducible] def Told : Type := List (Option Chg × Option Chg)
/-- One of both, at least. -/
def One : Option Chg → Option Chg → Prop
  | none, none => False
  | _, _ => True
/-- What is asked of the function that is told each key. -/
structure Pays (g : Nat) (caps : Array Value) (I : Told → World → Prop) (v1 v2 : Value) (xs ys : List Chg) : Prop where
  enters : ∀ args w, (callFunc g args).run Try.prog w = .ok (.enter g args) w
  row1 : ∀ T W, I T W → Crow W v1 xs
  row2 : ∀ T W, I T W → Crow W v2 ys
  drew : ∀ T W n, I T W → I T (W.drewN n)
  pay : ∀ T x y p q W, I T W → One x y → T.length < xs.length + ys.length → Ptr W p x → Ptr W q y → Calls Try.prog g (#[p, q] ++ caps) W fun e W' => e = .returned (.tuple #[]) ∧ I (T ++ [(x, y)]) W'

/-- The loop's state. -/
structure SRel (I : Told → World → Prop) (v1 v2 : Value) (xs ys : List Chg) (a1 : Option Addr) (n1 c1 : Nat) (a2 : Option Addr) (n2 c2 : Nat) (l r : List Chg) (T : Told) (wr : World) : Prop where
  t1 : ∀ W, Crow W v1 xs → Crow W (.slice a1 n1 c1) l
  t2 : ∀ W, Crow W v2 ys → Crow W (.slice a2 n2 c2) r
  m1 : n1 = l.length
  m2 : n2 = r.length
  inv : I T wr
  eq : T ++ sbs l r = sbs xs ys
  len : T.length + (l.length + r.length) ≤ xs.length + ys.length

theorem crow_next {x : Chg} {l : List Chg} {a : Option Addr} {n c : Nat} {W : World} (h : Crow W (.slice a (n + 1) c) (x :: l)) :
    (c = 1 → Crow W (.slice a n 0) l) ∧ (¬ c = 1 → Crow W (.slice (a.map fun y => y.add 6) n (c - 1)) l) := by
  have hn : n = l.length := by
    obtain ⟨_, _, e⟩ := h.shape
    injection e with _ e _
    simpa using e
  subst hn
  have := Row.tail (lo := 1) h (by simp)
  simpa [chC_m] using this
theorem SRel.left {I : Told → World → Prop} {v1 v2 : Value} {xs ys : List Chg} {b o n c : Nat} {a2 : Option Addr} {n2 c2 : Nat} {x : Chg} {l r : List Chg} {T : Told} {wr w' : World}
    (h : SRel I v1 v2 xs ys (some ⟨b, o, none⟩) (n + 1) c a2 n2 c2 (x :: l) r T wr) (hs : sbs (x :: l) r = (some x, none) :: sbs l r) (hI : I (T ++ [(some x, none)]) w') :
    (c = 1 → SRel I v1 v2 xs ys (some ⟨b, o, none⟩) n 0 a2 n2 c2 l r (T ++ [(some x, none)]) w') ∧ (¬ c = 1 → SRel I v1 v2 xs ys (some ⟨b, o + 6, none⟩) n (c - 1) a2 n2 c2 l r (T ++ [(some x, none)]) w') := by
  have hn : n = l.length := by have := h.m1; simpa using this
  have he : T ++ [(some x, none)] ++ sbs l r = sbs xs ys := by rw [← h.eq, hs]; simp
  have hl : (T ++ [(some x, (none : Option Chg))]).length + (l.length + r.length) ≤ xs.length + ys.length := by have := h.len; simp at this ⊢; omega
  exact ⟨fun hc => ⟨fun W hW => (crow_next (h.t1 W hW)).1 hc, h.t2, hn, h.m2, hI, he, hl⟩, fun hc => ⟨fun W hW => (crow_next (h.t1 W hW)).2 hc, h.t2, hn, h.m2, hI, he, hl⟩⟩
theorem SRel.right {I : Told → World → Prop} {v1 v2 : Value} {xs ys : List Chg} {b o n c : Nat} {a1 : Option Addr} {n1 c1 : Nat} {y : Chg} {l r : List Chg} {T : Told} {wr w' : World}
    (h : SRel I v1 v2 xs ys a1 n1 c1 (some ⟨b, o, none⟩) (n + 1) c l (y :: r) T wr) (hs : sbs l (y :: r) = (none, some y) :: sbs l r) (hI : I (T ++ [(none, some y)]) w') :
    (c = 1 → SRel I v1 v2 xs ys a1 n1 c1 (some ⟨b, o, none⟩) n 0 l r (T ++ [(none, some y)]) w') ∧ (¬ c = 1 → SRel I v1 v2 xs ys a1 n1 c1 (some ⟨b, o + 6, none⟩) n (c - 1) l r (T ++ [(none, some y)]) w') := by
  have hn : n = r.length := by have := h.m2; simpa using this
  have he : T ++ [(none, some y)] ++ sbs l r = sbs xs ys := by rw [← h.eq, hs]; simp
  have hl : (T ++ [((none : Option Chg), some y)]).length + (l.length + r.length) ≤ xs.length + ys.length := by have := h.len; simp at this ⊢; omega
  exact ⟨fun hc => ⟨h.t1, fun W hW => (crow_next (h.t2 W hW)).1 hc, h.m1, hn, hI, he, hl⟩, fun hc => ⟨h.t1, fun W hW => (crow_next (h.t2 W hW)).2 hc, h.m1, hn, hI, he, hl⟩⟩
theorem SRel.both {I : Told → World → Prop} {v1 v2 : Value} {xs ys : List Chg} {b o n c b2 o2 n2 c2 : Nat} {x y : Chg} {l r : List Chg} {T : Told} {wr w' : World}
    (h : SRel I v1 v2 xs ys (some ⟨b, o, none⟩) (n + 1) c (some ⟨b2, o2, none⟩) (n2 + 1) c2 (x :: l) (y :: r) T wr) (hs : sbs (x :: l) (y :: r) = (some x, some y) :: sbs l r) (hI : I (T ++ [(some x, some y)]) w') :
    (c = 1 → c2 = 1 → SRel I v1 v2 xs ys (some ⟨b, o, none⟩) n 0 (some ⟨b2, o2, none⟩) n2 0 l r (T ++ [(some x, some y)]) w') ∧ (c = 1 → ¬ c2 = 1 → SRel I v1 v2 xs ys (some ⟨b, o, none⟩) n 0 (some ⟨b2, o2 + 6, none⟩) n2 (c2 - 1) l r (T ++ [(some x, some y)]) w') ∧
    (¬ c = 1 → c2 = 1 → SRel I v1 v2 xs ys (some ⟨b, o + 6, none⟩) n (c - 1) (some ⟨b2, o2, none⟩) n2 0 l r (T ++ [(some x, some y)]) w') ∧ (¬ c = 1 → ¬ c2 = 1 → SRel I v1 v2 xs ys (some ⟨b, o + 6, none⟩) n (c - 1) (some ⟨b2, o2 + 6, none⟩) n2 (c2 - 1) l r (T ++ [(some x, some y)]) w') := by
  have hn : n = l.length := by have := h.m1; simpa using this
  have hn2 : n2 = r.length := by have := h.m2; simpa using this
  have he : T ++ [(some x, some y)] ++ sbs l r = sbs xs ys := by rw [← h.eq, hs]; simp
  have hl : (T ++ [(some x, some y)]).length + (l.length + r.length) ≤ xs.length + ys.length := by have := h.len; simp at this ⊢; omega
  exact ⟨fun hc hd => ⟨fun W hW => (crow_next (h.t1 W hW)).1 hc, fun W hW => (crow_next (h.t2 W hW)).1 hd, hn, hn2, hI, he, hl⟩, fun hc hd => ⟨fun W hW => (crow_next (h.t1 W hW)).1 hc, fun W hW => (crow_next (h.t2 W hW)).2 hd, hn, hn2, hI, he, hl⟩,
    fun hc hd => ⟨fun W hW => (crow_next (h.t1 W hW)).2 hc, fun W hW => (crow_next (h.t2 W hW)).1 hd, hn, hn2, hI, he, hl⟩, fun hc hd => ⟨fun W hW => (crow_next (h.t1 W hW)).2 hc, fun W hW => (crow_next (h.t2 W hW)).2 hd, hn, hn2, hI, he, hl⟩⟩
/-- What a round has at hand of a row that is not at its end. -/
theorem head_at {W : World} {a : Option Addr} {n c : Nat} {x : Chg} {l : List Chg} (h : Crow W (.slice a n c) (x :: l)) : ∃ b o m, a = some ⟨b, o, none⟩ ∧ n = m + 1 ∧ m + 1 ≤ c ∧ c ≤ maxLen ∧ CAt b o x W := by
  obtain ⟨b, o, rfl, hn, hc, hm, -, hat⟩ := Crow.opn h (by simp)
  refine ⟨b, o, l.length, rfl, by simpa using hn, by simpa using hc, hm, ?_⟩
  have := hat 0 (by simp)
  simpa only [Nat.zero_mul, Nat.add_zero, List.getElem_cons_zero] using this
def slLen : Value → Nat
  | .slice _ n _ => n
  | _ => 0

set_option maxRecDepth 100000 in
set_option maxHeartbeats 2000000 in
theorem side_any (g : Nat) (caps : Array Value) (v1 v2 : Value) (xs ys : List Chg) (I : Told → World → Prop) (hp : Pays g caps I v1 v2 xs ys) (w : World) (hI : I [] w) :
    Calls Try.prog 43 #[v1, v2, .func (.func g) #[] caps] w fun e w' => e = .returned (.tuple #[]) ∧ I (sbs xs ys) w' := by
  have eg := hp.enters
  have HP := Lib.hid hp
  obtain ⟨a1, c1, e1⟩ := (hp.row1 _ _ hI).shape
  obtain ⟨a2, c2, e2⟩ := (hp.row2 _ _ hI).shape
  have hini : SRel I v1 v2 xs ys a1 xs.length c1 a2 ys.length c2 xs ys [] w := ⟨fun W h => by rw [← e1]; exact h, fun W h => by rw [← e2]; exact h, rfl, rfl, hI, rfl, by simp⟩
  generalize hn1 : xs.length = N1 at hini e1
  generalize hn2 : ys.length = N2 at hini e2
  have HI := Lib.hid hini
  have hgo : ∀ (w : World) (a1 : Option Addr) (N1 c1 : Nat) (a2 : Option Addr) (N2 c2 : Nat), Hid (SRel I v1 v2 xs ys a1 N1 c1 a2 N2 c2 xs ys [] w) → Calls Try.prog 43 #[.slice a1 N1 c1, .slice a2 N2 c2, .func (.func g) #[] caps] w fun e w' => e = .returned (.tuple #[]) ∧ I (sbs xs ys) w' := by
    clear hini hI e1 e2 HI hn1 hn2
    clear hp
    intro w a1 N1 c1 a2 N2 c2 HI
    go_enter Try.func43, Try.ntmps43
    go_wp2
    go_step3
    go_wp2
    go_step3
    go_wp2
    go_loopw [0, 1] (fun s0 s1 wr => ∃ a1 n1 c1 a2 n2 c2 l r T, s0 = .slice a1 n1 c1 ∧ s1 = .slice a2 n2 c2 ∧ Hid (SRel I v1 v2 xs ys a1 n1 c1 a2 n2 c2 l r T wr)) (fun s0 s1 _ => slLen s0 + slLen s1)
    case atStart => exact ⟨_, _, _, _, _, _, _, _, _, rfl, rfl, HI⟩
    case round =>
      clear HI
      obtain ⟨b1, n1, d1, b2, n2, d2, l, r, T, rfl, rfl, HR⟩ := hrel
      cases l with
      | nil =>
        obtain rfl : n1 = 0 := HR.out.m1
        cases r with
        | nil =>
          obtain rfl : n2 = 0 := HR.out.m2
          have hend : I (sbs xs ys) wr := by have := HR.out.eq; rw [sbs_nn, List.append_nil] at this; rw [← this]; exact HR.out.inv
          have HE := Lib.hid hend
          clear hend HR HP
          go_wp2
          rw [Exit.noGoto_normal]
          go_end0
          exact ⟨rfl, HE.out⟩
        | cons y r =>
          obtain ⟨b2, o2, m2, rfl, rfl, hmc2, hcm2, hat2⟩ := head_at (HR.out.t2 _ (HP.out.row2 _ _ HR.out.inv))
          have z2 : ((m2 : Int) + 1 == 0) = false := by simp; omega
          have hm632 : (m2 : Int) + 1 ≤ 9223372036854775807 := by unfold maxLen at hcm2; omega
          have h012 : (0 : Int) < (m2 : Int) + 1 := by omega
          have h112 : (1 : Int) ≤ (m2 : Int) + 1 := by omega
          have hmc21 : (m2 : Int) + 1 ≤ (d2 : Int) := by omega
          have hlen : T.length < xs.length + ys.length := by have := HR.out.len; simp at this; omega
          have HN := Lib.hid (fun W hI => HR.out.right (w' := W) (sbs_nc y r) hI)
          have HQ := Lib.hid (fun n => HP.out.pay T none (some y) (.pointer none) (.pointer (some ⟨b2, o2, none⟩)) (wr.drewN n) (HP.out.drew _ _ _ HR.out.inv) trivial hlen (ptr_none _) (ptr_some (hat2.below (blw_drewN (Below.refl _ _) n) hat2.lt)))
          clear hat2 HP HR
          go_wp2
          go_quiet (fail)
          go_wp2
          go_quiet (fail)
          by_cases hc1 : d2 = 1
          · have HN1 := Lib.hid (fun W hI => (HN.out W hI).1 hc1)
            subst hc1
            obtain rfl : m2 = 0 := by omega
            go_wp2_with (go_at_fn g; refine (HQ.out _).mono ?_; rintro e w1 ⟨rfl, hI1⟩)
            have HN2 := Lib.hid (HN1.out _ hI1)
            go_roundw
            case rel => exact ⟨_, _, _, _, _, _, _, _, _, rfl, rfl, HN2⟩
            case measure => simp [slLen]; try omega
          · have HN1 := Lib.hid (fun W hI => (HN.out W hI).2 hc1)
            go_wp2_with (go_at_fn g; refine (HQ.out _).mono ?_; rintro e w1 ⟨rfl, hI1⟩)
            have HN2 := Lib.hid (HN1.out _ hI1)
            go_roundw
            case rel => exact ⟨_, _, _, _, _, _, _, _, _, rfl, rfl, HN2⟩
            case measure => simp [slLen]; try omega
      | cons x l =>
        cases r with
        | nil =>
          obtain rfl : n2 = 0 := HR.out.m2
          obtain ⟨b, o, m, rfl, rfl, hmc, hcm, hat⟩ := head_at (HR.out.t1 _ (HP.out.row1 _ _ HR.out.inv))
          have z1 : ((m : Int) + 1 == 0) = false := by simp; omega
          have hm63 : (m : Int) + 1 ≤ 9223372036854775807 := by unfold maxLen at hcm; omega
          have h01 : (0 : Int) < (m : Int) + 1 := by omega
          have h11 : (1 : Int) ≤ (m : Int) + 1 := by omega
          have hmc1 : (m : Int) + 1 ≤ (d1 : Int) := by omega
          have hlen : T.length < xs.length + ys.length := by have := HR.out.len; simp at this; omega
          have HN := Lib.hid (fun W hI => HR.out.left (w' := W) (sbs_cn x l) hI)
          have HQ := Lib.hid (fun n => HP.out.pay T (some x) none (.pointer (some ⟨b, o, none⟩)) (.pointer none) (wr.drewN n) (HP.out.drew _ _ _ HR.out.inv) trivial hlen (ptr_some (hat.below (blw_drewN (Below.refl _ _) n) hat.lt)) (ptr_none _))
          clear hat HP HR
          go_wp2
          go_quiet (fail)
          by_cases hc1 : d1 = 1
          · have HN1 := Lib.hid (fun W hI => (HN.out W hI).1 hc1)
            subst hc1
            obtain rfl : m = 0 := by omega
            go_wp2_with (go_at_fn g; refine (HQ.out _).mono ?_; rintro e w1 ⟨rfl, hI1⟩)
            have HN2 := Lib.hid (HN1.out _ hI1)
            go_roundw
            case rel => exact ⟨_, _, _, _, _, _, _, _, _, rfl, rfl, HN2⟩
            case measure => simp [slLen]; try omega
          · have HN1 := Lib.hid (fun W hI => (HN.out W hI).2 hc1)
            go_wp2_with (go_at_fn g; refine (HQ.out _).mono ?_; rintro e w1 ⟨rfl, hI1⟩)
            have HN2 := Lib.hid (HN1.out _ hI1)
            go_roundw
            case rel => exact ⟨_, _, _, _, _, _, _, _, _, rfl, rfl, HN2⟩
            case measure => simp [slLen]; try omega
        | cons y r =>
          by_cases hk : x.key < y.key
          · skip
            obtain ⟨b, o, m, rfl, rfl, hmc, hcm, hat⟩ := head_at (HR.out.t1 _ (HP.out.row1 _ _ HR.out.inv))
            have z1 : ((m : Int) + 1 == 0) = false := by simp; omega
            have hm63 : (m : Int) + 1 ≤ 9223372036854775807 := by unfold maxLen at hcm; omega
            have h01 : (0 : Int) < (m : Int) + 1 := by omega
            have h11 : (1 : Int) ≤ (m : Int) + 1 := by omega
            have hmc1 : (m : Int) + 1 ≤ (d1 : Int) := by omega
            obtain ⟨b2, o2, m2, rfl, rfl, hmc2, hcm2, hat2⟩ := head_at (HR.out.t2 _ (HP.out.row2 _ _ HR.out.inv))
            have z2 : ((m2 : Int) + 1 == 0) = false := by simp; omega
            have hm632 : (m2 : Int) + 1 ≤ 9223372036854775807 := by unfold maxLen at hcm2; omega
            have h012 : (0 : Int) < (m2 : Int) + 1 := by omega
            have h112 : (1 : Int) ≤ (m2 : Int) + 1 := by omega
            have hmc21 : (m2 : Int) + 1 ≤ (d2 : Int) := by omega
            have hlen : T.length < xs.length + ys.length := by have := HR.out.len; simp at this; omega
            have HN := Lib.hid (fun W hI => HR.out.left (w' := W) (sbs_lt hk) hI)
            have HQ := Lib.hid (fun n => HP.out.pay T (some x) none (.pointer (some ⟨b, o, none⟩)) (.pointer none) (wr.drewN n) (HP.out.drew _ _ _ HR.out.inv) trivial hlen (ptr_some (hat.below (blw_drewN (Below.refl _ _) n) hat.lt)) (ptr_none _))
            obtain ⟨c0, c1, c2, c3, c4, c5⟩ := hat
            obtain ⟨f0, f1, f2, f3, f4, f5⟩ := hat2
            have e1 : decide (x.key < y.key) = true := by simpa using hk
            clear HP HR hk
            go_wp2
            go_quiet (fail)
            by_cases hc1 : d1 = 1
            · have HN1 := Lib.hid (fun W hI => (HN.out W hI).1 hc1)
              subst hc1
              obtain rfl : m = 0 := by omega
              go_wp2_with (go_at_fn g; refine (HQ.out _).mono ?_; rintro e w1 ⟨rfl, hI1⟩)
              have HN2 := Lib.hid (HN1.out _ hI1)
              go_roundw
              case rel => exact ⟨_, _, _, _, _, _, _, _, _, rfl, rfl, HN2⟩
              case measure => simp [slLen]; try omega
            · have HN1 := Lib.hid (fun W hI => (HN.out W hI).2 hc1)
              go_wp2_with (go_at_fn g; refine (HQ.out _).mono ?_; rintro e w1 ⟨rfl, hI1⟩)
              have HN2 := Lib.hid (HN1.out _ hI1)
              go_roundw
              case rel => exact ⟨_, _, _, _, _, _, _, _, _, rfl, rfl, HN2⟩
              case measure => simp [slLen]; try omega
          · by_cases hk2 : y.key < x.key
            · skip
              obtain ⟨b, o, m, rfl, rfl, hmc, hcm, hat⟩ := head_at (HR.out.t1 _ (HP.out.row1 _ _ HR.out.inv))
              have z1 : ((m : Int) + 1 == 0) = false := by simp; omega
              have hm63 : (m : Int) + 1 ≤ 9223372036854775807 := by unfold maxLen at hcm; omega
              have h01 : (0 : Int) < (m : Int) + 1 := by omega
              have h11 : (1 : Int) ≤ (m : Int) + 1 := by omega
              have hmc1 : (m : Int) + 1 ≤ (d1 : Int) := by omega
              obtain ⟨b2, o2, m2, rfl, rfl, hmc2, hcm2, hat2⟩ := head_at (HR.out.t2 _ (HP.out.row2 _ _ HR.out.inv))
              have z2 : ((m2 : Int) + 1 == 0) = false := by simp; omega
              have hm632 : (m2 : Int) + 1 ≤ 9223372036854775807 := by unfold maxLen at hcm2; omega
              have h012 : (0 : Int) < (m2 : Int) + 1 := by omega
              have h112 : (1 : Int) ≤ (m2 : Int) + 1 := by omega
              have hmc21 : (m2 : Int) + 1 ≤ (d2 : Int) := by omega
              have hlen : T.length < xs.length + ys.length := by have := HR.out.len; simp at this; omega
              have HN := Lib.hid (fun W hI => HR.out.right (w' := W) (sbs_gt hk2) hI)
              have HQ := Lib.hid (fun n => HP.out.pay T none (some y) (.pointer none) (.pointer (some ⟨b2, o2, none⟩)) (wr.drewN n) (HP.out.drew _ _ _ HR.out.inv) trivial hlen (ptr_none _) (ptr_some (hat2.below (blw_drewN (Below.refl _ _) n) hat2.lt)))
              obtain ⟨c0, c1, c2, c3, c4, c5⟩ := hat
              obtain ⟨f0, f1, f2, f3, f4, f5⟩ := hat2
              have e1 : decide (x.key < y.key) = false := by simpa using hk
              have e2 : decide (y.key < x.key) = true := by simpa using hk2
              clear HP HR hk hk2
              go_wp2
              go_quiet (fail)
              go_wp2
              go_quiet (fail)
              by_cases hc1 : d2 = 1
              · have HN1 := Lib.hid (fun W hI => (HN.out W hI).1 hc1)
                subst hc1
                obtain rfl : m2 = 0 := by omega
                go_wp2_with (go_at_fn g; refine (HQ.out _).mono ?_; rintro e w1 ⟨rfl, hI1⟩)
                have HN2 := Lib.hid (HN1.out _ hI1)
                go_roundw
                case rel => exact ⟨_, _, _, _, _, _, _, _, _, rfl, rfl, HN2⟩
                case measure => simp [slLen]; try omega
              · have HN1 := Lib.hid (fun W hI => (HN.out W hI).2 hc1)
                go_wp2_with (go_at_fn g; refine (HQ.out _).mono ?_; rintro e w1 ⟨rfl, hI1⟩)
                have HN2 := Lib.hid (HN1.out _ hI1)
                go_roundw
                case rel => exact ⟨_, _, _, _, _, _, _, _, _, rfl, rfl, HN2⟩
                case measure => simp [slLen]; try omega
            · skip
              obtain ⟨b, o, m, rfl, rfl, hmc, hcm, hat⟩ := head_at (HR.out.t1 _ (HP.out.row1 _ _ HR.out.inv))
              have z1 : ((m : Int) + 1 == 0) = false := by simp; omega
              have hm63 : (m : Int) + 1 ≤ 9223372036854775807 := by unfold maxLen at hcm; omega
              have h01 : (0 : Int) < (m : Int) + 1 := by omega
              have h11 : (1 : Int) ≤ (m : Int) + 1 := by omega
              have hmc1 : (m : Int) + 1 ≤ (d1 : Int) := by omega
              obtain ⟨b2, o2, m2, rfl, rfl, hmc2, hcm2, hat2⟩ := head_at (HR.out.t2 _ (HP.out.row2 _ _ HR.out.inv))
              have z2 : ((m2 : Int) + 1 == 0) = false := by simp; omega
              have hm632 : (m2 : Int) + 1 ≤ 9223372036854775807 := by unfold maxLen at hcm2; omega
              have h012 : (0 : Int) < (m2 : Int) + 1 := by omega
              have h112 : (1 : Int) ≤ (m2 : Int) + 1 := by omega
              have hmc21 : (m2 : Int) + 1 ≤ (d2 : Int) := by omega
              have hlen : T.length < xs.length + ys.length := by have := HR.out.len; simp at this; omega
              have HN := Lib.hid (fun W hI => HR.out.both (w' := W) (sbs_eq hk hk2) hI)
              have HQ := Lib.hid (fun n => HP.out.pay T (some x) (some y) (.pointer (some ⟨b, o, none⟩)) (.pointer (some ⟨b2, o2, none⟩)) (wr.drewN n) (HP.out.drew _ _ _ HR.out.inv) trivial hlen (ptr_some (hat.below (blw_drewN (Below.refl _ _) n) hat.lt)) (ptr_some (hat2.below (blw_drewN (Below.refl _ _) n) hat2.lt)))
              have HD := Lib.hid HP.out.drew
              obtain ⟨c0, c1, c2, c3, c4, c5⟩ := hat
              obtain ⟨f0, f1, f2, f3, f4, f5⟩ := hat2
              have e1 : decide (x.key < y.key) = false := by simpa using hk
              have e2 : decide (y.key < x.key) = false := by simpa using hk2
              clear HP HR hk hk2
              go_wp2
              go_quiet (fail)
              go_wp2
              go_quiet (fail)
              go_wp2
              go_region_held3 (fun w' => True) (trivial) ((go_at_fn g; refine (HQ.out _).mono ?_; rintro e w1 ⟨rfl, hI1⟩))
              have HN2 := Lib.hid (fun n => HN.out _ (HD.out _ _ n hI1))
              by_cases hc1 : d1 = 1 <;> by_cases hc2 : d2 = 1
              · have HN3 := Lib.hid (fun n => (HN2.out n).1 hc1 hc2)
                subst hc1 hc2
                obtain rfl : m = 0 := by omega
                obtain rfl : m2 = 0 := by omega
                clear HN HN2 HD HQ hI1
                go_wp2
                go_quiet (fail)
                go_roundw
                case rel => first | exact ⟨_, _, _, _, _, _, _, _, _, rfl, rfl, Lib.hid (HN3.out _)⟩ | exact ⟨_, _, _, _, _, _, _, _, _, _, _, _, _, _, _, _, _, _, _, _, _, _, _, _, _, _, _, _, _, _, _, _, _, _, _, _, _, _, _, _, _, _, _, _, _, _, _, _, _, _, _, _, _, _, _, _, _, _, _, _, _, _, _, _, _, _, _, _, ⟨_, _, _, _, _, _, _, _, _, rfl, rfl, Lib.hid (HN3.out _)⟩, rfl⟩
                case measure => simp [slLen]; try omega
              · have HN3 := Lib.hid (fun n => (HN2.out n).2.1 hc1 hc2)
                subst hc1
                obtain rfl : m = 0 := by omega
                clear HN HN2 HD HQ hI1
                go_wp2
                go_quiet (fail)
                go_roundw
                case rel => first | exact ⟨_, _, _, _, _, _, _, _, _, rfl, rfl, Lib.hid (HN3.out _)⟩ | exact ⟨_, _, _, _, _, _, _, _, _, _, _, _, _, _, _, _, _, _, _, _, _, _, _, _, _, _, _, _, _, _, _, _, _, _, _, _, _, _, _, _, _, _, _, _, _, _, _, _, _, _, _, _, _, _, _, _, _, _, _, _, _, _, _, _, _, _, _, _, ⟨_, _, _, _, _, _, _, _, _, rfl, rfl, Lib.hid (HN3.out _)⟩, rfl⟩
                case measure => simp [slLen]; try omega
              · have HN3 := Lib.hid (fun n => (HN2.out n).2.2.1 hc1 hc2)
                subst hc2
                obtain rfl : m2 = 0 := by omega
                clear HN HN2 HD HQ hI1
                go_wp2
                go_quiet (fail)
                go_roundw
                case rel => first | exact ⟨_, _, _, _, _, _, _, _, _, rfl, rfl, Lib.hid (HN3.out _)⟩ | exact ⟨_, _, _, _, _, _, _, _, _, _, _, _, _, _, _, _, _, _, _, _, _, _, _, _, _, _, _, _, _, _, _, _, _, _, _, _, _, _, _, _, _, _, _, _, _, _, _, _, _, _, _, _, _, _, _, _, _, _, _, _, _, _, _, _, _, _, _, _, ⟨_, _, _, _, _, _, _, _, _, rfl, rfl, Lib.hid (HN3.out _)⟩, rfl⟩
                case measure => simp [slLen]; try omega
              · have HN3 := Lib.hid (fun n => (HN2.out n).2.2.2 hc1 hc2)
                clear HN HN2 HD HQ hI1
                go_wp2
                go_quiet (fail)
                go_roundw
                case rel => first | exact ⟨_, _, _, _, _, _, _, _, _, rfl, rfl, Lib.hid (HN3.out _)⟩ | exact ⟨_, _, _, _, _, _, _, _, _, _, _, _, _, _, _, _, _, _, _, _, _, _, _, _, _, _, _, _, _, _, _, _, _, _, _, _, _, _, _, _, _, _, _, _, _, _, _, _, _, _, _, _, _, _, _, _, _, _, _, _, _, _, _, _, _, _, _, _, ⟨_, _, _, _, _, _, _, _, _, rfl, rfl, Lib.hid (HN3.out _)⟩, rfl⟩
                case measure => simp [slLen]; try omega
  subst e1 e2
  exact hgo _ _ _ _ _ _ _ HI
end Go.Proofs.Ytmbjjaflgdfihaa

/- C3: what the closures do to the list that they put to -/
namespace Go.Proofs.Ytmbjjaflgdfihaa
open Go.RowKit
set_option linter.unusedVariables false

/-- The list so far lies in the cell at B0; else nothing that was there at W1 has turned. -/
structure Acc (W1 : World) (B0 : Nat) (v : Value) (ls : List Chg) (W : World) : Prop where
  cell : W.cell? ⟨B0, 0, none⟩ = some v
  free : W.frozen? ⟨B0, 0, none⟩ = false
  own : W.ownsRow W1.heap.size 86 6 v ls.length (fl chC ls)
  grown : W1.grownBy W (some B0)
  lt : B0 < W1.heap.size
theorem grown_drewN {w w' : World} {r : Option Nat} (h : w.grownBy w' r) (n : Nat) : w.grownBy (w'.drewN n) r := by
  obtain ⟨h1, h2, h3, h4, h5⟩ := h
  exact ⟨h1, h2, h3, h4, h5⟩
theorem Acc.drewN {W1 : World} {B0 : Nat} {v : Value} {ls : List Chg} {W : World} (h : Acc W1 B0 v ls W) (n : Nat) : Acc W1 B0 v ls (W.drewN n) :=
  ⟨h.cell, h.free, owns_below h.own (blw_drewN (Below.refl _ _) n), grown_drewN h.grown n, h.lt⟩
theorem Acc.size {W1 : World} {B0 : Nat} {v : Value} {ls : List Chg} {W : World} (h : Acc W1 B0 v ls W) : W1.heap.size ≤ W.heap.size := h.grown.size
/-- A block that was there, but for the cell's, is as it was. -/
theorem Acc.block {W1 : World} {B0 : Nat} {v : Value} {ls : List Chg} {W : World} (h : Acc W1 B0 v ls W) {j : Nat} (hj : j < W1.heap.size) (hn : j ≠ B0) : W.heap[j]? = W1.heap[j]? := by
  exact h.grown.block j hj (by simpa using hn)
theorem Acc.row {W1 : World} {B0 : Nat} {v u : Value} {ls xs : List Chg} {W : World} (h : Acc W1 B0 v ls W) (hr : Crow W1 u xs) (hn : ∀ b o n c, u = .slice (some ⟨b, o, none⟩) n c → b ≠ B0 ∨ xs = []) : Crow W u xs := by
  rcases hr with hr | ⟨b, off, cap, rfl, h0, h1, h2, h3⟩
  · exact .inl hr
  · refine .inr ⟨b, off, cap, rfl, h0, h1, h2, fun j u hu => ?_⟩
    have hc := h3 j u hu
    refine h.grown.cell (a := ⟨b, off + j, none⟩) hc ?_
    rcases hn _ _ _ _ rfl with e | e
    · simpa using e
    · subst e; simp at h0
theorem Acc.ptr {W1 : World} {B0 : Nat} {v : Value} {ls : List Chg} {W w2 w3 : World} (h : Acc W1 B0 v ls W) (hb : Below W.heap.size W w2) (hg : w2.grownBy w3 v.ownBlock) :
    w3.cell? ⟨B0, 0, none⟩ = some v ∧ w3.frozen? ⟨B0, 0, none⟩ = false := by
  have hB : B0 < W.heap.size := Nat.lt_of_lt_of_le h.lt h.size
  have hne : some B0 ≠ v.ownBlock := fun e => by
    have := own_base h.own e.symm
    have := h.lt
    omega
  refine ⟨hg.cell ((hb.cell (p := ⟨B0, 0, none⟩) hB).trans h.cell) hne, ?_⟩
  rw [World.frozen?_of_block (w := w2) (hg.block B0 (Nat.lt_of_lt_of_le hB hb.size) hne)]
  exact (hb.frozen (p := ⟨B0, 0, none⟩) hB).trans h.free
theorem Acc.push {W1 : World} {B0 : Nat} {v v3 : Value} {ls : List Chg} {x : Chg} {W w2 w3 : World} (h : Acc W1 B0 v ls W) (hb : Below W.heap.size W w2) (hg : w2.grownBy w3 v.ownBlock)
    (hown : w3.ownsRow W1.heap.size 86 6 v3 (ls.length + 1) (fl chC ls ++ cc x)) : Acc W1 B0 v3 (ls ++ [x]) (w3.setCell ⟨B0, 0, none⟩ v3) := by
  obtain ⟨hc, hf⟩ := h.ptr hb hg
  have hB : B0 < W.heap.size := Nat.lt_of_lt_of_le h.lt h.size
  refine ⟨World.cell?_setCell_same _ _ _ hc, (World.frozen?_setCell _ _ _ _).trans hf, ownsRow_setCell_below ?_ h.lt _, ?_, h.lt⟩
  · rw [fl_app, fl_one, List.length_append]; exact hown
  · refine ⟨hg.os.trans (hb.os.trans h.grown.os), hg.tape.trans (hb.tape.trans h.grown.tape), hg.output.trans (hb.output.trans h.grown.output), ?_, fun k hk hn => ?_⟩
    · have := h.size; have := hb.size; have := hg.size; simp; omega
    · have hk2 : k < W.heap.size := Nat.lt_of_lt_of_le hk h.size
      rw [Below.heap_setCell _ _ _ _ (by show k ≠ B0; simpa using hn), hg.block k (Nat.lt_of_lt_of_le hk2 hb.size) (fun e => by have := own_base h.own e.symm; omega), hb.block k hk2]
      exact h.grown.block k hk hn
theorem both_alloc {W : World} {B0 b o : Nat} {v : Value} {x : Chg} (hc : W.cell? ⟨B0, 0, none⟩ = some v) (hat : CAt b o x W) (ob : Obj) : (W.alloc ob).drew.cell? ⟨B0, 0, none⟩ = some v ∧ CAt b o x (W.alloc ob).drew :=
  have hb : Below W.heap.size W (W.alloc ob).drew := ((Below.refl _ _).alloc (Nat.le_refl _) ob).drew
  ⟨(hb.cell (p := ⟨B0, 0, none⟩) (World.block_lt_of_cell? W _ hc)).trans hc, hat.below hb hat.lt⟩
theorem below_ad (W : World) (ob : Obj) : Below W.heap.size W (W.alloc ob).drew := ((Below.refl _ _).alloc (Nat.le_refl _) ob).drew
/-- A key that is gone. -/
@[reducible] def goneC (key : Int) : Chg := ⟨key, true, 0, 0, 0, ⟨#[]⟩⟩

set_option maxRecDepth 100000 in
set_option maxHeartbeats 1000000 in
theorem diff_x (W1 : World) (B0 : Nat) (v : Value) (ls : List Chg) (W : World) (h : Acc W1 B0 v ls W) (bx ox : Nat) (x : Chg) (hatx : CAt bx ox x W)  (hl : ls.length ≤ 1000000000000) :
    Calls Try.prog 45 #[.pointer (some ⟨bx, ox, none⟩), .pointer none, .pointer (some ⟨B0, 0, none⟩)] W fun e W' => e = .returned (.tuple #[]) ∧ ∃ v', Acc W1 B0 v' (ls ++ [(goneC x.key)]) W' := by
  obtain ⟨i0, hi, hz0, hz1, hz2⟩ := info_ch
  have HA := Lib.hid h
  have hc := h.cell
  obtain ⟨x0, x1, x2, x3, x4, x5⟩ := id hatx
  have hsz := h.size
  have hc2 : (W.alloc (.cells #[.int .i64 x.key, .bool true, .int .u8 0, .int .i64 0, .int .u64 0, .string ⟨#[]⟩] 86)).drew.cell? ⟨B0, 0, none⟩ = some v := (both_alloc hc hatx _).1
  clear h hatx
  go_enter Try.func45, Try.ntmps45
  go_wp2
  go_region_law
    ((refine step_append_lies _ (by rfl) (.tmp 8) (.tmp 14) 49 (by rfl) W1.heap.size 86 i0 (cv noChg) 6 56 Try.underlying49 hi hz0 hz1 hz2 (by rfl) (by decide) v ls.length (fl chC ls) (by rfl) (owns_below HA.out.own (below_ad W _)) ⟨W.heap.size, 0, none⟩ 1 1 (cc (goneC x.key)) (by rfl) (by rfl) (World.news_of_block (heap_alloc_new _ _)) (cc_one (goneC x.key)) (by decide) (by unfold maxLen; omega) (by omega) (by simp; omega) _ rfl ?_; intro g cap w3 hown3 hgrow3 hat3 hlt3; obtain ⟨hwc, hwf⟩ := HA.out.ptr (below_ad W _) hgrow3))
  all_goals (go_end0; exact ⟨rfl, _, HA.out.push (below_ad W _) hgrow3 hown3⟩)

set_option maxRecDepth 100000 in
set_option maxHeartbeats 1000000 in
theorem diff_y (W1 : World) (B0 : Nat) (v : Value) (ls : List Chg) (W : World) (h : Acc W1 B0 v ls W) (b1 o1 : Nat) (y : Chg) (haty : CAt b1 o1 y W)  (hl : ls.length ≤ 1000000000000) :
    Calls Try.prog 45 #[.pointer none, .pointer (some ⟨b1, o1, none⟩), .pointer (some ⟨B0, 0, none⟩)] W fun e W' => e = .returned (.tuple #[]) ∧ ∃ v', Acc W1 B0 v' (ls ++ [y]) W' := by
  obtain ⟨i0, hi, hz0, hz1, hz2⟩ := info_ch
  have HA := Lib.hid h
  have hc := h.cell
  obtain ⟨y0, y1, y2, y3, y4, y5⟩ := id haty
  have hsz := h.size
  have hc2x : (W.alloc (.cells #[.int .i64 y.key, .bool y.g, .int .u8 y.k, .int .i64 y.n, .int .u64 y.f, .string y.s] 86)).drew.cell? ⟨B0, 0, none⟩ = some v := (both_alloc hc haty _).1
  have HATy := Lib.hid haty
  clear h haty
  go_enter Try.func45, Try.ntmps45
  go_wp2
  go_quiet (fail)
  have HA2 := Lib.hid (HA.out.drewN nq)
  have HY2 := Lib.hid (HATy.out.below (blw_drewN (Below.refl _ _) nq) HATy.out.lt)
  clear HA HATy hc y0 y1 y2 y3 y4 y5 hsz hc2x
  generalize W.drewN nq = W2 at *
  have hc := HA2.out.cell
  obtain ⟨y0, y1, y2, y3, y4, y5⟩ := id HY2.out
  have hsz2 := HA2.out.size
  have hc2 : (W2.alloc (.cells #[.int .i64 y.key, .bool y.g, .int .u8 y.k, .int .i64 y.n, .int .u64 y.f, .string y.s] 86)).drew.cell? ⟨B0, 0, none⟩ = some v := (both_alloc hc HY2.out _).1
  go_wp2
  go_region_law
    ((refine step_append_lies _ (by rfl) (.tmp 28) (.tmp 32) 49 (by rfl) W1.heap.size 86 i0 (cv noChg) 6 56 Try.underlying49 hi hz0 hz1 hz2 (by rfl) (by decide) v ls.length (fl chC ls) (by rfl) (owns_below HA2.out.own (below_ad W2 _)) ⟨W2.heap.size, 0, none⟩ 1 1 (cc y) (by rfl) (by rfl) (World.news_of_block (heap_alloc_new _ _)) (cc_one y) (by decide) (by unfold maxLen; omega) (by omega) (by simp; omega) _ rfl ?_; intro g cap w3 hown3 hgrow3 hat3 hlt3; obtain ⟨hwc, hwf⟩ := HA2.out.ptr (below_ad W2 _) hgrow3))
  all_goals (go_end0; exact ⟨rfl, _, HA2.out.push (below_ad W2 _) hgrow3 hown3⟩)

set_option maxRecDepth 100000 in
set_option maxHeartbeats 1000000 in
theorem diff_xy (W1 : World) (B0 : Nat) (v : Value) (ls : List Chg) (W : World) (h : Acc W1 B0 v ls W) (bx ox : Nat) (x : Chg) (hatx : CAt bx ox x W) (b1 o1 : Nat) (y : Chg) (haty : CAt b1 o1 y W) (hn : ¬ x = y) (hl : ls.length ≤ 1000000000000) :
    Calls Try.prog 45 #[.pointer (some ⟨bx, ox, none⟩), .pointer (some ⟨b1, o1, none⟩), .pointer (some ⟨B0, 0, none⟩)] W fun e W' => e = .returned (.tuple #[]) ∧ ∃ v', Acc W1 B0 v' (ls ++ [y]) W' := by
  obtain ⟨i0, hi, hz0, hz1, hz2⟩ := info_ch
  have HA := Lib.hid h
  have hc := h.cell
  obtain ⟨x0, x1, x2, x3, x4, x5⟩ := id hatx
  obtain ⟨y0, y1, y2, y3, y4, y5⟩ := id haty
  have hsz := h.size
  have hc2x : (W.alloc (.cells #[.int .i64 y.key, .bool y.g, .int .u8 y.k, .int .i64 y.n, .int .u64 y.f, .string y.s] 86)).drew.cell? ⟨B0, 0, none⟩ = some v := (both_alloc hc hatx _).1
  have HATy := Lib.hid haty
  have hq := fun w => chg_neq x y w
  rw [show ceq x y = false by rw [ceq_dec]; simpa using hn] at hq
  clear h hatx haty
  go_enter Try.func45, Try.ntmps45
  go_wp2
  go_quiet (fail)
  have HA2 := Lib.hid (HA.out.drewN nq)
  have HY2 := Lib.hid (HATy.out.below (blw_drewN (Below.refl _ _) nq) HATy.out.lt)
  clear HA HATy hc y0 y1 y2 y3 y4 y5 hsz hc2x x0 x1 x2 x3 x4 x5 hq
  generalize W.drewN nq = W2 at *
  have hc := HA2.out.cell
  obtain ⟨y0, y1, y2, y3, y4, y5⟩ := id HY2.out
  have hsz2 := HA2.out.size
  have hc2 : (W2.alloc (.cells #[.int .i64 y.key, .bool y.g, .int .u8 y.k, .int .i64 y.n, .int .u64 y.f, .string y.s] 86)).drew.cell? ⟨B0, 0, none⟩ = some v := (both_alloc hc HY2.out _).1
  go_wp2
  go_region_law
    ((refine step_append_lies _ (by rfl) (.tmp 28) (.tmp 32) 49 (by rfl) W1.heap.size 86 i0 (cv noChg) 6 56 Try.underlying49 hi hz0 hz1 hz2 (by rfl) (by decide) v ls.length (fl chC ls) (by rfl) (owns_below HA2.out.own (below_ad W2 _)) ⟨W2.heap.size, 0, none⟩ 1 1 (cc y) (by rfl) (by rfl) (World.news_of_block (heap_alloc_new _ _)) (cc_one y) (by decide) (by unfold maxLen; omega) (by omega) (by simp; omega) _ rfl ?_; intro g cap w3 hown3 hgrow3 hat3 hlt3; obtain ⟨hwc, hwf⟩ := HA2.out.ptr (below_ad W2 _) hgrow3))
  all_goals (go_end0; exact ⟨rfl, _, HA2.out.push (below_ad W2 _) hgrow3 hown3⟩)

set_option maxRecDepth 100000 in
set_option maxHeartbeats 1000000 in
theorem diff_same (W1 : World) (B0 : Nat) (v : Value) (ls : List Chg) (W : World) (h : Acc W1 B0 v ls W) (bx ox : Nat) (x : Chg) (hatx : CAt bx ox x W) (b1 o1 : Nat) (y : Chg) (haty : CAt b1 o1 y W) (hn : x = y) (hl : ls.length ≤ 1000000000000) :
    Calls Try.prog 45 #[.pointer (some ⟨bx, ox, none⟩), .pointer (some ⟨b1, o1, none⟩), .pointer (some ⟨B0, 0, none⟩)] W fun e W' => e = .returned (.tuple #[]) ∧ ∃ v', Acc W1 B0 v' ls W' := by
  obtain ⟨i0, hi, hz0, hz1, hz2⟩ := info_ch
  have HA := Lib.hid h
  have hc := h.cell
  obtain ⟨x0, x1, x2, x3, x4, x5⟩ := id hatx
  obtain ⟨y0, y1, y2, y3, y4, y5⟩ := id haty
  have hsz := h.size
  have hq := fun w => chg_neq x y w
  rw [show ceq x y = true by rw [ceq_dec]; simpa using hn] at hq
  clear hn
  clear h hatx haty
  go_enter Try.func45, Try.ntmps45
  go_wp2
  go_quiet (fail)
  go_wp2
  go_end0
  exact ⟨rfl, _, HA.out.drewN nq⟩
end Go.Proofs.Ytmbjjaflgdfihaa

/- C4: Compose, Less; what Diff does with two rows -/
namespace Go.Proofs.Ytmbjjaflgdfihaa
open Go.RowKit Go.Shelf
set_option linter.unusedVariables false

def putC : Option Chg × Option Chg → List Chg
  | (_, some y) => [y]
  | (some x, none) => [x]
  | (none, none) => []
def putD : Option Chg × Option Chg → List Chg
  | (some x, none) => [goneC x.key]
  | (none, some y) => [y]
  | (some x, some y) => if x = y then [] else [y]
  | (none, none) => []
theorem put_len (f : Option Chg × Option Chg → List Chg) (hf : ∀ p, (f p).length ≤ 1) : ∀ T : Told, (T.flatMap f).length ≤ T.length
  | [] => by simp
  | p :: T => by have := put_len f hf T; have := hf p; simp only [List.flatMap_cons, List.length_append, List.length_cons]; omega
theorem putD_one (p : Option Chg × Option Chg) : (putD p).length ≤ 1 := by
  rcases p with ⟨_ | _, _ | _⟩ <;> simp [putD]
  split <;> simp
theorem told_one (f : Option Chg × Option Chg → List Chg) (T : Told) (p : Option Chg × Option Chg) : (T ++ [p]).flatMap f = T.flatMap f ++ f p := by simp
/-- A row that does not lie in that block. -/
def OffC (B0 : Nat) (v : Value) (xs : List Chg) : Prop := ∀ b o n c, v = .slice (some ⟨b, o, none⟩) n c → b ≠ B0 ∨ xs = []
theorem off_own {w : World} {base : Nat} {e : TypeId} {size : Nat} {v : Value} {n : Nat} {cs : List Value} (h : w.ownsRow base e size v n cs) {B0 : Nat} (hB : B0 < base) (xs : List Chg) : OffC B0 v xs := by
  intro b o n c hv
  subst hv
  have := own_base h (k := b) rfl
  exact .inl (by omega)
/-- A list of changes that the call made. -/
@[reducible] def Own6 (w w' : World) (u : Value) (ls : List Chg) : Prop := w'.ownsRow w.heap.size 86 6 u ls.length (fl chC ls)
theorem own6_row {w w' : World} {u : Value} {ls : List Chg} (h : Own6 w w' u ls) : Crow w' u ls := (Row.of_owns h).1

theorem acc_start {W1 : World} {B0 : Nat} (hc : W1.cell? ⟨B0, 0, none⟩ = some (.slice none 0 0)) (hf : W1.frozen? ⟨B0, 0, none⟩ = false) : Acc W1 B0 (.slice none 0 0) [] W1 :=
  ⟨hc, hf, World.ownsRow_nil _ _ _ _, ⟨rfl, rfl, rfl, Nat.le_refl _, fun _ _ _ => rfl⟩, World.block_lt_of_cell? _ _ hc⟩

theorem pays_diff {W1 : World} {B0 : Nat} {v1 v2 : Value} {xs ys : List Chg} (h1 : Crow W1 v1 xs) (h2 : Crow W1 v2 ys) (n1 : OffC B0 v1 xs) (n2 : OffC B0 v2 ys) (hl : xs.length + ys.length ≤ 1000000000000) :
    Pays 45 #[.pointer (some ⟨B0, 0, none⟩)] (fun T W => ∃ v, Acc W1 B0 v (T.flatMap putD) W) v1 v2 xs ys := by
  refine ⟨enters_of Try.func45 (by kernel_rfl) rfl, fun T W ⟨v, h⟩ => h.row h1 n1, fun T W ⟨v, h⟩ => h.row h2 n2, fun T W n ⟨v, h⟩ => ⟨v, h.drewN n⟩, ?_⟩
  intro T x y p q W ⟨v, h⟩ ho hlt hp hq
  have hlen := put_len putD putD_one T
  rw [told_one]
  cases y with
  | some y =>
    obtain ⟨b, o, rfl, hat⟩ := hq
    cases x with
    | none =>
      obtain rfl : p = .pointer none := hp
      exact diff_y W1 B0 v _ W h b o y hat (by omega)
    | some x =>
      obtain ⟨b2, o2, rfl, hat2⟩ := hp
      by_cases hxy : x = y
      · rw [show putD (some x, some y) = [] by simp [putD, hxy], List.append_nil]
        exact diff_same W1 B0 v _ W h b2 o2 x hat2 b o y hat hxy (by omega)
      · rw [show putD (some x, some y) = [y] by simp [putD, hxy]]
        exact diff_xy W1 B0 v _ W h b2 o2 x hat2 b o y hat hxy (by omega)
  | none =>
    obtain rfl : q = .pointer none := hq
    cases x with
    | none => exact absurd ho (by simp [One])
    | some x =>
      obtain ⟨b, o, rfl, hat⟩ := hp
      exact diff_x W1 B0 v _ W h b o x hat (by omega)

def comp (xs ys : List Chg) : List Chg := (sbs xs ys).flatMap putC
def dif (xs ys : List Chg) : List Chg := (sbs xs ys).flatMap putD
/-- The cell of its own, in which a call has its list. -/
theorem nilcell_new (w : World) (t : TypeId) : (w.alloc (.cells #[.slice none 0 0] t)).cell? ⟨w.heap.size, 0, none⟩ = some (.slice none 0 0) := by
  rw [cell_of_row _ w.heap.size _ _ t (0, 0) (heap_alloc_new w _)]; rfl
theorem frozen_new (w : World) (t : TypeId) : (w.alloc (.cells #[.slice none 0 0] t)).frozen? ⟨w.heap.size, 0, none⟩ = false := by
  unfold World.frozen?
  rw [show (w.alloc (.cells #[.slice none 0 0] t)).heap[w.heap.size]? = _ from heap_alloc_new w _]
  rfl
theorem acc_end {w W1 w' : World} {v : Value} {ls : List Chg} (h : Acc W1 w.heap.size v ls w') (hb : Below w.heap.size w W1) : Own6 w w' v ls ∧ Below w.heap.size w w' :=
  ⟨owns_mono h.own hb.size, ⟨h.grown.os.trans hb.os, h.grown.tape.trans hb.tape, h.grown.output.trans hb.output, Nat.le_trans hb.size h.grown.size, fun k hk => (h.grown.block k (Nat.lt_of_lt_of_le hk hb.size) (by simp; omega)).trans (hb.block k hk)⟩⟩

end Go.Proofs.Ytmbjjaflgdfihaa

/- C5: a set as a patch, a patch as a set; Diff, Apply, Invert -/
namespace Go.Proofs.Ytmbjjaflgdfihaa
open Go.RowKit
set_option linter.unusedVariables false

theorem crow_new0 (w : World) (a : Chg) (t : TypeId) : Crow (w.alloc (.cells (cca a) t)) (.slice (some ⟨w.heap.size, 0, none⟩) 1 1) [a] := crow_one w a t
theorem crow_new1 (w : World) (o : Obj) (a : Chg) (t : TypeId) : Crow ((w.alloc o).alloc (.cells (cca a) t)) (.slice (some ⟨w.heap.size + 1, 0, none⟩) 1 1) [a] := by
  have h := crow_new0 (w.alloc o) a t
  simp only [World.size_alloc] at h
  exact h
def Grows6 (w : World) (ls : List Chg) (v : Value) (wr : World) : Prop := Own6 w wr v ls ∧ Below w.heap.size w wr
theorem grows6_more {w wr w2 w3 : World} {ls : List Chg} {x : Chg} {v v3 : Value} (h : Grows6 w ls v wr) (hb : Below wr.heap.size wr w2)
    (ho : w3.ownsRow w.heap.size 86 6 v3 (ls.length + 1) (fl chC ls ++ fl chC [x])) (hg : w2.grownBy w3 v.ownBlock) : Grows6 w (ls ++ [x]) v3 w3 := by
  obtain ⟨h1, h2⟩ := h
  refine ⟨?_, (below_add h2 hb h2.size).grown hg (below_add h2 hb h2.size).size (fun j hj => own_base h1 hj)⟩
  unfold Own6
  rw [fl_app, List.length_append]
  exact ho
theorem grows6_nil (w W : World) (h : Below w.heap.size w W) : Grows6 w [] (.slice none 0 0) W := ⟨World.ownsRow_nil _ _ _ _, h⟩

theorem tsnoc {α : Type} {xs : List α} {k : Nat} (h : k < xs.length) : xs.take (k + 1) = xs.take k ++ [xs[k]] := List.take_succ_eq_append_getElem h
theorem tend {α : Type} (xs : List α) : xs.take xs.length = xs := List.take_of_length_le (Nat.le_refl _)
def chs (xs : List Att) : List Chg := xs.map toC
def ats (xs : List Chg) : List Att := (xs.filter fun c => !c.g).map toA
theorem chs_snoc {xs : List Att} {k : Nat} (h : k < xs.length) : chs (xs.take (k + 1)) = chs (xs.take k) ++ [toC xs[k]] := by unfold chs; rw [tsnoc h, List.map_append]; rfl
theorem chs_len (xs : List Att) : (chs xs).length = xs.length := by simp [chs]
set_option maxRecDepth 100000 in
set_option maxHeartbeats 1000000 in
theorem changes_any (v : Value) (xs : List Att) (w : World) (hv : Arow w v xs) (hl : xs.length ≤ 1000000000) :
    Calls Try.prog 44 #[v] w fun e w' => ∃ u, e = .returned u ∧ Own6 w w' u (chs xs) ∧ Below w.heap.size w w' := by
  obtain ⟨i0, hi, hz0, hz1, hz2⟩ := info_ch
  obtain ⟨a1, cap1, rfl⟩ := hv.shape
  by_cases h0 : 0 < xs.length
  · obtain ⟨b1, o1, rfl, -, -, -, hbl, hat⟩ := Arow.opn hv h0
    have HAT := Lib.hid hat
    clear hv hat
    go_enter Try.func44, Try.ntmps44
    go_wp2
    go_loopw [3, 8] (fun s3 s8 wr => ∃ k : Nat, k ≤ xs.length ∧ s8 = .int .i64 k ∧ Grows6 w (chs (xs.take k)) s3 wr) (fun _ s8 _ => xs.length - (intOf s8).toNat)
    case atStart => exact ⟨0, Nat.zero_le _, rfl, grows6_nil _ _ (Below.refl _ _)⟩
    case round =>
      obtain ⟨k, hk, rfl, hR⟩ := hrel
      by_cases hlt : k < xs.length
      · obtain ⟨c0, c1, c2, c3, c4⟩ := (HAT.out k hlt).below hR.2 hbl
        have hs := chs_snoc hlt
        have hll : (chs (xs.take k)).length ≤ 1000000000 := by rw [chs_len, List.length_take]; omega
        have hsz := hR.2.size
        have HS := Lib.hid hs
        have HR := Lib.hid hR
        clear hR hs
        generalize xs[k] = x at *
        obtain ⟨x1, x2, x3, x4, x5⟩ := x
        simp only at c0 c1 c2 c3 c4
        generalize chs (xs.take k) = ls at *
        have hE : Below wr.heap.size wr (wr.alloc (.cells #[.int .i64 x1, .int .u8 x2, .int .i64 x3, .int .u64 x4, .string x5] 46)) := (Below.refl _ _).alloc (Nat.le_refl _) _
        go_wp2_with (at_builtin; go_loud (refine wpList_append_row (C := chC) rfl (.tmp 12) (.tmp 18) 49 rfl w.heap.size 86 i0 (cv noChg) 56 Try.underlying49 hi hz0 hz1 hz2 rfl _ _ _ rfl (owns_below HR.out.1 (hE.alloc hE.size _)) _ [toC ⟨x1, x2, x3, x4, x5⟩] rfl (crow_new1 wr _ (toC ⟨x1, x2, x3, x4, x5⟩) 86) (by unfold maxLen; simp; omega) (by simp; omega) (by simp; omega) ?_); intro v3 w3 hown3 hgrow3)
        have HC := Lib.hid (grows6_more HR.out (hE.alloc hE.size _) hown3 hgrow3)
        go_roundw
        case rel => exact ⟨k + 1, by omega, by go_num, by rw [HS.out]; exact HC.out⟩
        case measure => simp [intOf]; omega
      · obtain rfl : k = xs.length := by omega
        have HR := Lib.hid hR
        clear hR
        go_wp2
        go_ret
        have h := HR.out
        rw [tend] at h
        exact ⟨_, rfl, h⟩
  · obtain rfl : xs = [] := List.eq_nil_of_length_eq_zero (by omega)
    clear hv h0 hl
    go_enter Try.func44, Try.ntmps44
    go_wp2
    refine wp_loop_rounds 1 ?_
    rw [rounds_succ]
    go_wp2
    go_ret
    exact ⟨_, rfl, World.ownsRow_nil _ _ _ _, Below.refl _ _⟩

def app (xs : List Att) (p : List Chg) : List Att := ats (comp (chs xs) p)
def diff6 (a b : List Att) : List Chg := dif (chs a) (chs b)
def inv (a : List Att) (p : List Chg) : List Chg := diff6 (app a p) a
set_option maxRecDepth 100000 in
theorem diff_any (v1 v2 : Value) (a b : List Att) (w : World) (h1 : Arow w v1 a) (h2 : Arow w v2 b) (hl : a.length + b.length ≤ 1000000000) :
    Calls Try.prog 29 #[v1, v2] w fun e w' => ∃ u, e = .returned u ∧ Own6 w w' u (diff6 a b) ∧ Below w.heap.size w w' := by
  have hb : Below w.heap.size w (w.alloc (.cells #[.slice none 0 0] 49)) := (Below.refl _ _).alloc (Nat.le_refl _) _
  have hc := nilcell_new w 49
  have hf := frozen_new w 49
  have hsz : (w.alloc (.cells #[.slice none 0 0] 49)).heap.size = w.heap.size + 1 := by simp
  have HC1 := Lib.hid (changes_any v1 a _ (h1.below hb (Nat.le_refl _)) (by omega))
  have HC2 := Lib.hid (fun w1 (h : Below w.heap.size w w1) => changes_any v2 b w1 (h2.below h (Nat.le_refl _)) (by omega))
  have HS := Lib.hid (fun v1 v2 W1 hc hf (h1 : Crow W1 v1 (chs a)) (h2 : Crow W1 v2 (chs b)) n1 n2 => side_any _ _ v1 v2 (chs a) (chs b) _ (pays_diff (B0 := w.heap.size) h1 h2 n1 n2 (by rw [chs_len, chs_len]; omega)) W1 ⟨_, acc_start hc hf⟩)
  have HB := Lib.hid hb
  clear h1 h2 hb
  go_enter Try.func29, Try.ntmps29
  go_wp2_with fail
  generalize w.alloc (.cells #[.slice none 0 0] 49) = w0 at *
  go_wp2_with (first
    | (go_at_call 44; with_reducible (refine HC1.out.mono ?_); rintro e w1 ⟨u1, rfl, ho1, hb1⟩; clear HC1)
    | (go_at_call 44; with_reducible (refine (HC2.out _ (below_add HB.out hb1 HB.out.size)).mono ?_); rintro e w2 ⟨u2, rfl, ho2, hb2⟩; have hb02 := below_add hb1 hb2 hb1.size)
    | (go_at_call 43; refine (HS.out u1 u2 _ ((hb02.cell (p := ⟨w.heap.size, 0, none⟩) (by show w.heap.size < w0.heap.size; omega)).trans hc) ((hb02.frozen (p := ⟨w.heap.size, 0, none⟩) (by show w.heap.size < w0.heap.size; omega)).trans hf) ((own6_row ho1).below hb2 (Nat.le_refl _)) (own6_row ho2) (off_own ho1 (by omega) _) (off_own ho2 (by have := hb1.size; omega) _)).mono ?_; rintro e w3 ⟨rfl, v, hA⟩; have hcv := hA.cell))
  go_ret
  exact ⟨_, rfl, acc_end hA (below_add HB.out hb02 HB.out.size)⟩

end Go.Proofs.Ytmbjjaflgdfihaa

/- C6: patches held against one another; rising; Clone, Copy -/
namespace Go.Proofs.Ytmbjjaflgdfihaa
open Go.RowKit
set_option linter.unusedVariables false

theorem ceq_step {xs ys : List Chg} {k : Nat} (h1 : k < xs.length) (h2 : k < ys.length) (h : xs.take k = ys.take k) (he : xs[k] = ys[k]) : xs.take (k + 1) = ys.take (k + 1) := by
  rw [tsnoc h1, tsnoc h2, h, he]
theorem ceq_end {xs ys : List Chg} (hl : xs.length = ys.length) (h : xs.take xs.length = ys.take xs.length) : xs = ys := by
  rw [List.take_of_length_le (Nat.le_refl _), hl, List.take_of_length_le (Nat.le_refl _)] at h; exact h
theorem ceq_bad {xs ys : List Chg} {k : Nat} (h1 : k < xs.length) (h2 : k < ys.length) (he : ¬ xs[k] = ys[k]) : ¬ xs = ys := by
  intro h; subst h; exact he rfl

set_option maxRecDepth 100000 in
theorem cequal_any (v1 v2 : Value) (xs ys : List Chg) (w : World) (h1 : Crow w v1 xs) (h2 : Crow w v2 ys) :
    Calls Try.prog 49 #[v1, v2] w fun e w' => e = .returned (.bool (decide (xs = ys))) ∧ ∃ q, w' = w.drewN q := by
  have hl1 := h1.len
  have hl2 := h2.len
  obtain ⟨a1, cap1, rfl⟩ := h1.shape
  obtain ⟨a2, cap2, rfl⟩ := h2.shape
  by_cases hl : xs.length = ys.length
  · by_cases h0 : 0 < xs.length
    · obtain ⟨b1, o1, rfl, -, -, -, -, hat1⟩ := Crow.opn h1 h0
      obtain ⟨b2, o2, rfl, -, -, -, -, hat2⟩ := Crow.opn h2 (by omega)
      clear h1 h2
      have H1 := Lib.hid hat1
      have H2 := Lib.hid hat2
      have HL := Lib.hid hl
      clear hat1 hat2
      rw [← hl]
      clear hl hl2
      go_enter Try.func49, Try.ntmps49
      go_wp2
      go_loopw [13] (fun i wr => ∃ k q : Nat, k ≤ xs.length ∧ i = .int .i64 k ∧ wr = w.drewN q ∧ Hid (xs.take k = ys.take k)) (fun i _ => xs.length - (intOf i).toNat)
      case atStart => exact ⟨0, 0, Nat.zero_le _, rfl, rfl, Lib.hid rfl⟩
      case round =>
        obtain ⟨k, q, hk, rfl, rfl, HP⟩ := hrel
        by_cases hlt : k < xs.length
        · have hlt2 : k < ys.length := by rw [← HL.out]; exact hlt
          obtain ⟨c0, c1, c2, c3, c4, c5⟩ := H1.out k hlt
          obtain ⟨d0, d1, d2, d3, d4, d5⟩ := H2.out k hlt2
          have hS := fun h => ceq_step hlt hlt2 HP.out h
          have hE := fun h => ceq_bad hlt hlt2 h
          have hD : ceq xs[k] ys[k] = decide (xs[k] = ys[k]) := ceq_dec _ _
          have hq := fun w => chg_neq xs[k] ys[k] w
          generalize xs[k] = x at *
          generalize ys[k] = y at *
          by_cases hxy : x = y
          · have HS := Lib.hid (hS hxy)
            have e1 : ceq x y = true := by rw [hD]; simp [hxy]
            rw [e1] at hq
            obtain ⟨x1, x0, x2, x3, x4, x5⟩ := x
            obtain ⟨y1, y0, y2, y3, y4, y5⟩ := y
            clear hS hE hD e1 hxy
            simp only at c0 c1 c2 c3 c4 c5 d0 d1 d2 d3 d4 d5 hq
            go_wp2
            go_quiet (fail)
            go_wp2
            go_roundw
            case rel => exact ⟨k + 1, q + nq, by omega, by go_num, by simp, HS⟩
            case measure => simp [intOf]; omega
          · have HS := Lib.hid (hE hxy)
            have e1 : ceq x y = false := by rw [hD]; simp [hxy]
            rw [e1] at hq
            obtain ⟨x1, x0, x2, x3, x4, x5⟩ := x
            obtain ⟨y1, y0, y2, y3, y4, y5⟩ := y
            clear hS hE hD e1 hxy
            simp only at c0 c1 c2 c3 c4 c5 d0 d1 d2 d3 d4 d5 hq
            go_wp2
            go_quiet (fail)
            go_wp2
            go_ret
            exact ⟨dec_no HS.out, q + nq, by simp⟩
        · obtain rfl : k = xs.length := by omega
          have HE := Lib.hid (ceq_end HL.out HP.out)
          clear HP
          go_wp2
          go_ret
          exact ⟨dec_yes HE.out, _, rfl⟩
    · obtain rfl : xs = [] := List.eq_nil_of_length_eq_zero (by omega)
      obtain rfl : ys = [] := List.eq_nil_of_length_eq_zero (by simpa using hl.symm)
      clear h1 h2 h0 hl hl1 hl2
      go_enter Try.func49, Try.ntmps49
      go_wp2
      refine wp_loop_rounds 1 ?_
      rw [rounds_succ]
      go_wp2
      go_ret
      exact ⟨rfl, 0, rfl⟩
  · have HN := Lib.hid (show ¬ xs = ys from fun h => hl (by rw [h]))
    have e1 : ((xs.length : Int) != (ys.length : Int)) = true := by simp; omega
    clear h1 h2
    go_enter Try.func49, Try.ntmps49
    go_wp2
    go_ret
    exact ⟨dec_no HN.out, 0, rfl⟩

theorem same_any6 (v1 v2 : Value) (xs ys : List Chg) (w : World) (h1 : Crow w v1 xs) (h2 : Crow w v2 ys) :
    Calls Try.prog 39 #[v1, v2] w fun e w' => e = .returned (.bool (decide (xs = ys))) ∧ Below w.heap.size w w' := by
  have HE := Lib.hid (cequal_any v1 v2 xs ys w h1 h2)
  clear h1 h2
  go_enter Try.func39, Try.ntmps39
  go_wp2_with (go_at_call 49; ((with_reducible refine HE.out.mono ?_); rintro e w1 ⟨rfl, q, rfl⟩))
  go_ret
  exact ⟨rfl, blw_drewN (Below.refl _ _) q⟩
theorem own6_nil (w0 w : World) : Own6 w0 w (.slice none 0 0) [] := World.ownsRow_nil _ _ _ _
theorem cnil_eql (a : Option Addr) (l c : Nat) (w : World) : (binOp .eql 49 (.slice a l c) (.slice none 0 0)).run Try.prog w = .ok (.bool a.isNone) w := by
  simp only [binOp, Sem.run_bind, run_equal_slice_nil w 49 86 a l c Try.underlying49, Result.andThen_ok, Sem.run_pure]

set_option maxRecDepth 100000 in
theorem clone_any6 (v : Value) (xs : List Chg) (w : World) (hv : Crow w v xs) (hl : xs.length * 56 ≤ 140737488355328) :
    Calls Try.prog 56 #[v] w fun e w' => ∃ u, e = .returned u ∧ Own6 w w' u xs ∧ Below w.heap.size w w' := by
  obtain ⟨i0, hi, hz0, hz1, hz2⟩ := info_ch
  have HV := Lib.hid hv
  have hnil := fun a l c w => cnil_eql a l c w
  obtain ⟨a, cap, rfl⟩ := hv.shape
  cases a with
  | none =>
    obtain ⟨rfl, rfl⟩ : xs = [] ∧ cap = 0 := by
      rcases hv with ⟨_, _, h, hx, _, h0⟩ | ⟨_, _, _, h, _⟩
      · injection h with h1 _ h3; subst hx; exact ⟨rfl, by rw [h3]; exact h0 h1.symm⟩
      · injection h with h1; cases h1
    clear hv HV
    go_enter Try.func56, Try.ntmps56
    go_wp2
    go_ret
    exact ⟨_, rfl, own6_nil _ _, Below.refl _ _⟩
  | some a =>
    clear hv
    have hB := (Below.refl w.heap.size w).alloc (Nat.le_refl _) (.cells #[] 86)
    go_enter Try.func56, Try.ntmps56
    go_wp2_with (at_builtin; refine wpList_append_row (C := chC) rfl (.tmp 5) (.tmp 6) 49 rfl w.heap.size 86 i0 (cv noChg) 56 Try.underlying49 hi hz0 hz1 hz2 rfl _ 0 [] rfl (owns_none w 86 6) _ xs rfl (HV.out.below hB (Nat.le_refl _)) (by unfold maxLen; omega) (by omega) (by simp) ?_; intro v3 w3 hown3 hgrow3)
    go_ret
    refine ⟨_, rfl, ?_, hB.grown hgrow3 (by simp) (fun j hj => own_base (owns_none w 86 6) hj)⟩
    have h : w3.ownsRow w.heap.size 86 chC.m v3 (0 + xs.length) ([] ++ fl chC xs) := hown3
    rw [Nat.zero_add, List.nil_append] at h
    exact h

end Go.Proofs.Ytmbjjaflgdfihaa

/- C12: great -/
namespace Go.Proofs.Ytmbjjaflgdfihaa
open Go.RowKit
set_option linter.unusedVariables false

/-- How much there is. -/
def sizeC (p : List Chg) : Nat := (p.map fun c => c.s.size).sum
def sizeA (a : List Att) : Nat := (a.map fun c => c.s.size).sum
def totC (p : List Chg) : Nat := p.length + sizeC p
def totA (a : List Att) : Nat := a.length + sizeA a
end Go.Proofs.Ytmbjjaflgdfihaa

/- A18: attributes, and slices of them, that came in -/
namespace Go.Proofs.Ytmbjjaflgdfihaa
open Go.RowKit Go.ChangeShapes Go.WideShapes Go.Deep
set_option linter.unusedVariables false

section
variable {H : Type} {enc : TypeId × Value → H} {w : World} {base : Nat} {spare : Nat → Bool} {held : Bool}

theorem att_fields : Try.prog.underlying 46 = some (.struct (Try.prog.fieldsOf 46)) := by kernel_rfl
theorem att_cells : Try.prog.cellsOf 46 = 5 := by kernel_rfl
theorem att_types : (Try.prog.fieldsOf 46).map (fun f => (f.type, f.offset)) = #[(3, 0), (44, 1)] := by kernel_rfl
theorem att_size : (Try.prog.fieldsOf 46).size = 2 := by kernel_rfl
theorem int_cells5 : Try.prog.cellsOf 3 = 1 := by kernel_rfl
theorem value_cells5 : Try.prog.cellsOf 44 = 4 := by kernel_rfl
theorem value_fields5 : Try.prog.underlying 44 = some (.struct (Try.prog.fieldsOf 44)) := by kernel_rfl
theorem value_one5 : oneCellFields Try.prog (Try.prog.fieldsOf 44) = true := by kernel_rfl
theorem value_types5 : (Try.prog.fieldsOf 44).map (·.type) = #[5, 2, 42, 9] := by kernel_rfl
theorem value_size5 : (Try.prog.fieldsOf 44).size = 4 := by kernel_rfl

end
end Go.Proofs.Ytmbjjaflgdfihaa

/- C14: changes and attributes that came in, and what they weigh -/
namespace Go.Proofs.Ytmbjjaflgdfihaa
open Go.RowKit Go.ChangeShapes Go.WideShapes Go.Deep
set_option linter.unusedVariables false

section
variable {H : Type} {enc : TypeId × Value → H} {w : World} {base : Nat} {spare : Nat → Bool} {held : Bool}

/-- The datum of a change, of an attribute. -/
def vD (k n f : Int) (s : ByteArray) : DataW H := .agg [.lit (.int .u8 k), .lit (.int .i64 n), .lit (.int .u64 f), .lit (.string s.data.toList)]
def chD (a : Chg) : DataW H := .agg [.lit (.int .i64 a.key), .lit (.bool a.g), vD a.k a.n a.f a.s]
def atD (a : Att) : DataW H := .agg [.lit (.int .i64 a.key), vD a.k a.n a.f a.s]

theorem ch_fields : Try.prog.underlying 86 = some (.struct (Try.prog.fieldsOf 86)) := by kernel_rfl
theorem ch_cells : Try.prog.cellsOf 86 = 6 := by kernel_rfl
theorem ch_types : (Try.prog.fieldsOf 86).map (fun f => (f.type, f.offset)) = #[(3, 0), (4, 1), (44, 2)] := by kernel_rfl
theorem ch_size : (Try.prog.fieldsOf 86).size = 3 := by kernel_rfl
theorem bool_cells6 : Try.prog.cellsOf 4 = 1 := by kernel_rfl
theorem ch_bytes : Try.prog.bytesOf 86 = 56 := by kernel_rfl
set_option maxRecDepth 100000 in
theorem open_val6 {n : Nat} {cs : List Value} {y : DataW H × List MemPlace} (h : DataW.trod enc Try.prog w base spare held n 44 cs = some y) :
    ∃ (k n' f : Int) (s : ByteArray), (Lit.int .u8 k).wf = true ∧ (Lit.int .i64 n').wf = true ∧ (Lit.int .u64 f).wf = true ∧ s.size ≤ maxLen ∧ cs = [.int .u8 k, .int .i64 n', .int .u64 f, .string s] ∧ y.1 = vD k n' f s := by
  obtain ⟨ys, m, -, hy, hlen, hys, hf⟩ := DataW.trod_struct value_fields5 h
  rw [value_cells5] at hlen
  rw [value_size5] at hys
  have hj : ∀ (j : Nat) (t : TypeId), (#[5, 2, 42, 9] : Array TypeId)[j]? = some t → DataW.trod enc Try.prog w base spare held m t ((cs.drop j).take 1) = ys[j]? := by
    intro j t hjt
    rw [← value_types5, Array.getElem?_map, Option.map_eq_some_iff] at hjt
    obtain ⟨f, hfj, rfl⟩ := hjt
    obtain ⟨ho, hk⟩ := hone_of value_one5 j f hfj
    have := hf j f hfj
    rwa [ho, hk] at this
  clear hf h
  match cs, hlen with
  | [c0, c1, c2, c3], _ =>
    match ys, hys with
    | [y0, y1, y2, y3], _ =>
      have h0 : DataW.trod enc Try.prog w base spare held m 5 [c0] = some y0 := hj 0 _ rfl
      have h1 : DataW.trod enc Try.prog w base spare held m 2 [c1] = some y1 := hj 1 _ rfl
      have h2 : DataW.trod enc Try.prog w base spare held m 42 [c2] = some y2 := hj 2 _ rfl
      have h3 : DataW.trod enc Try.prog w base spare held m 9 [c3] = some y3 := hj 3 _ rfl
      obtain ⟨a0, e0, rfl, w0⟩ := DataW.trod_int Try.underlying5 h0
      obtain ⟨a1, e1, rfl, w1⟩ := DataW.trod_int Try.underlying2 h1
      obtain ⟨a2, e2, rfl, w2⟩ := DataW.trod_int Try.underlying42 h2
      obtain ⟨a3, e3, rfl, w3⟩ := DataW.trod_string Try.underlying9 h3
      simp only [List.cons.injEq, and_true] at e0 e1 e2 e3
      subst e0 e1 e2 e3
      exact ⟨a0, a1, a2, a3, w0, w1, w2, w3, rfl, by rw [hy]; rfl⟩

set_option maxRecDepth 100000 in
theorem open_att6 {n : Nat} {cs : List Value} {y : DataW H × List MemPlace} (h : DataW.trod enc Try.prog w base spare held n 46 cs = some y) : ∃ a : Att, AttW a ∧ cs = ac a ∧ y.1 = atD a := by
  obtain ⟨ys, m, -, hy, hlen, hys, hf⟩ := DataW.trod_struct att_fields h
  rw [att_cells] at hlen
  rw [att_size] at hys
  have hj : ∀ (j : Nat) (t : TypeId) (o : Nat), (#[(3, 0), (44, 1)] : Array (TypeId × Nat))[j]? = some (t, o) → DataW.trod enc Try.prog w base spare held m t ((cs.drop o).take (Try.prog.cellsOf t)) = ys[j]? := by
    intro j t o hjt
    rw [← att_types, Array.getElem?_map, Option.map_eq_some_iff] at hjt
    obtain ⟨f, hfj, e⟩ := hjt
    simp only [Prod.mk.injEq] at e
    obtain ⟨rfl, rfl⟩ := e
    exact hf j f hfj
  clear hf h
  match cs, hlen with
  | [c0, c1, c2, c3, c4], _ =>
    match ys, hys with
    | [y0, y1], _ =>
      have h0 := hj 0 3 0 rfl
      have h1 := hj 1 44 1 rfl
      rw [int_cells5] at h0
      rw [value_cells5] at h1
      have h0' : DataW.trod enc Try.prog w base spare held m 3 [c0] = some y0 := h0
      have h1' : DataW.trod enc Try.prog w base spare held m 44 [c1, c2, c3, c4] = some y1 := h1
      obtain ⟨a0, e0, rfl, w0⟩ := DataW.trod_int Try.underlying3 h0'
      obtain ⟨k, n', f, s, w1, w2, w3, w4, e1, hd⟩ := open_val6 h1'
      simp only [List.cons.injEq, and_true] at e0 e1
      obtain ⟨rfl, rfl, rfl, rfl⟩ := e1
      subst e0
      exact ⟨⟨a0, k, n', f, s⟩, ⟨w0, w1, w2, w3, w4⟩, rfl, by rw [hy]; simp [atD, hd]⟩

set_option maxRecDepth 100000 in
theorem open_chg6 {n : Nat} {cs : List Value} {y : DataW H × List MemPlace} (h : DataW.trod enc Try.prog w base spare held n 86 cs = some y) : ∃ a : Chg, ChgW a ∧ cs = cc a ∧ y.1 = chD a := by
  obtain ⟨ys, m, -, hy, hlen, hys, hf⟩ := DataW.trod_struct ch_fields h
  rw [ch_cells] at hlen
  rw [ch_size] at hys
  have hj : ∀ (j : Nat) (t : TypeId) (o : Nat), (#[(3, 0), (4, 1), (44, 2)] : Array (TypeId × Nat))[j]? = some (t, o) → DataW.trod enc Try.prog w base spare held m t ((cs.drop o).take (Try.prog.cellsOf t)) = ys[j]? := by
    intro j t o hjt
    rw [← ch_types, Array.getElem?_map, Option.map_eq_some_iff] at hjt
    obtain ⟨f, hfj, e⟩ := hjt
    simp only [Prod.mk.injEq] at e
    obtain ⟨rfl, rfl⟩ := e
    exact hf j f hfj
  clear hf h
  match cs, hlen with
  | [c0, cb, c1, c2, c3, c4], _ =>
    match ys, hys with
    | [y0, yb, y1], _ =>
      have h0 := hj 0 3 0 rfl
      have hb := hj 1 4 1 rfl
      have h1 := hj 2 44 2 rfl
      rw [int_cells5] at h0
      rw [bool_cells6] at hb
      rw [value_cells5] at h1
      have h0' : DataW.trod enc Try.prog w base spare held m 3 [c0] = some y0 := h0
      have hb' : DataW.trod enc Try.prog w base spare held m 4 [cb] = some yb := hb
      have h1' : DataW.trod enc Try.prog w base spare held m 44 [c1, c2, c3, c4] = some y1 := h1
      obtain ⟨a0, e0, rfl, w0⟩ := DataW.trod_int Try.underlying3 h0'
      obtain ⟨ab, eb, rfl⟩ := DataW.trod_bool Try.underlying4 hb'
      obtain ⟨k, n', f, s, w1, w2, w3, w4, e1, hd⟩ := open_val6 h1'
      simp only [List.cons.injEq, and_true] at e0 eb e1
      obtain ⟨rfl, rfl, rfl, rfl⟩ := e1
      subst e0 eb
      exact ⟨⟨a0, ab, k, n', f, s⟩, ⟨w0, w1, w2, w3, w4⟩, rfl, by rw [hy]; simp [chD, hd]⟩

set_option maxRecDepth 100000 in
/-- A slice that came in, of whatever lies as C says. -/
theorem open_rows {α : Type} (C : Cel α) (W : α → Prop) (D : α → DataW H) {t e : TypeId} (ht : Try.prog.underlying t = some (.slice e)) (hcell : Try.prog.cellsOf e = C.m)
    (hop : ∀ {n : Nat} {cs : List Value} {y : DataW H × List MemPlace}, DataW.trod enc Try.prog w base spare held n e cs = some y → ∃ a : α, W a ∧ cs = C.c a ∧ y.1 = D a)
    {n : Nat} {v : Value} {x : DataW H × List MemPlace} (h : DataW.trod enc Try.prog w base spare held n t [v] = some x) :
    ∃ xs : List α, Row C w v xs ∧ (∀ a ∈ xs, W a) ∧ (x.1 = .nil ∧ xs = [] ∨ ∃ sp, x.1 = .slice (xs.map D) sp) := by
  rcases open_slice ht h with ⟨hcs, hx⟩ | ⟨a, len, cap, m, n', Dt, Pl, hcs, -, hl, hm, hmm, hx, hi⟩
  · injection hcs with hv _
    subst hv
    exact ⟨[], Row.nil w, by simp, .inl ⟨by rw [hx], rfl⟩⟩
  · injection hcs with hv _
    subst hv
    have hlm : len ≤ m := by rw [hmm]; split <;> omega
    have hex : ∀ i, i < len → ∃ k : α, W k ∧ (∀ j u, (C.c k)[j]? = some u → w.cell? (a.add (i * C.m + j)) = some u) ∧ Dt i = D k := by
      intro i hil
      obtain ⟨cs', hc, ht⟩ := hi i (by omega)
      obtain ⟨k, hw, rfl, hd⟩ := hop ht
      rw [hcell] at hc
      obtain ⟨-, hcl, hat⟩ := World.cells?_some hc
      refine ⟨k, hw, fun j u hu => ?_, hd⟩
      have hj : j < C.m := by have := (List.getElem?_eq_some_iff.1 hu).1; rwa [C.len] at this
      have := hat j hj
      rw [hu, add_add] at this
      exact this
    have hex2 : ∀ i : Fin len, ∃ k : α, W k ∧ (∀ j u, (C.c k)[j]? = some u → w.cell? (a.add (i.1 * C.m + j)) = some u) ∧ Dt i.1 = D k := fun i => hex i.1 i.2
    obtain ⟨f, hf⟩ := Classical.axiomOfChoice hex2
    have hlen : (List.ofFn f).length = len := by simp
    refine ⟨List.ofFn f, ?_, fun k hk => ?_, .inr ⟨(List.range (m - len)).map fun j => Dt (len + j), ?_⟩⟩
    · by_cases h0 : len = 0
      · subst h0
        exact .inl ⟨some a, cap, rfl, by simp, hm, by simp⟩
      · obtain ⟨b, off, spot⟩ := a
        have hspot : spot = none := by
          have hp : 0 < (C.c (f ⟨0, by omega⟩)).length := by rw [C.len]; exact C.pos
          have := (hf ⟨0, by omega⟩).2.1 0 _ (List.getElem?_eq_getElem hp)
          simpa [Addr.add] using World.cell?_spot this
        subst hspot
        refine .inr ⟨b, off, cap, by rw [hlen], by omega, by omega, hm, fun j u hu => ?_⟩
        have hjl : j < len * C.m := by
          have := (List.getElem?_eq_some_iff.1 hu).1
          rwa [fl_len, hlen] at this
        have hd : j / C.m < len := Nat.div_lt_of_lt_mul (by rw [Nat.mul_comm]; exact hjl)
        have e1 : j / C.m * C.m + j % C.m = j := by rw [Nat.mul_comm]; exact Nat.div_add_mod j C.m
        have g := fl_get C (List.ofFn f) (j / C.m) (j % C.m) (by omega) (Nat.mod_lt _ C.pos)
        rw [e1, hu] at g
        have := (hf ⟨j / C.m, hd⟩).2.1 (j % C.m) u (by rw [g]; simp)
        rw [e1, Go.WideShapes.add_plain] at this
        exact this
    · obtain ⟨i, rfl⟩ := List.mem_ofFn.1 hk
      exact (hf i).1
    · rw [hx]
      show DataW.slice ((List.range len).map Dt) _ = DataW.slice _ _
      congr 1
      apply List.ext_getElem
      · simp
      · intro i h1 h2
        simp at h1
        simp [(hf ⟨i, h1⟩).2.2]

/-- What a slice of changes, of attributes, that came in is. -/
def InC (d : DataW H) (xs : List Chg) : Prop := d = .nil ∧ xs = [] ∨ ∃ sp, d = .slice (xs.map chD) sp
def InA (d : DataW H) (xs : List Att) : Prop := d = .nil ∧ xs = [] ∨ ∃ sp, d = .slice (xs.map atD) sp
set_option maxRecDepth 100000 in
theorem open_chs {n : Nat} {v : Value} {x : DataW H × List MemPlace} (h : DataW.trod enc Try.prog w base spare held n 49 [v] = some x) : ∃ xs, Crow w v xs ∧ (∀ a ∈ xs, ChgW a) ∧ InC x.1 xs :=
  open_rows chC ChgW chD Try.underlying49 ch_cells (fun h => open_chg6 h) h
set_option maxRecDepth 100000 in
theorem open_ats {n : Nat} {v : Value} {x : DataW H × List MemPlace} (h : DataW.trod enc Try.prog w base spare held n 39 [v] = some x) : ∃ xs, Arow w v xs ∧ (∀ a ∈ xs, AttW a) ∧ InA x.1 xs :=
  open_rows attC AttW atD Try.underlying39 att_cells (fun h => open_att6 h) h

set_option maxRecDepth 100000 in
/-- What they weigh: how many places, how long each text. -/
theorem sized_C {ts : List TypeId} {ds : List (DataW H)} (h : (DataW.weightsEach Try.prog ts ds).all (· ≤ reachBytes) = true) {j : Nat} {d : DataW H} {xs : List Chg} (hd : InC d xs) (ht : ts[j]? = some 49) (hj : ds[j]? = some d) :
    xs.length * 56 ≤ 140737488355328 ∧ ∀ c ∈ xs, c.s.size ≤ 140737488355328 := by
  have h2 := reachBytes_lt
  rcases hd with ⟨-, rfl⟩ | ⟨sp, rfl⟩
  · simp
  · have hu := Try.underlying49
    refine ⟨?_, fun c hc => ?_⟩
    · have := sized_slice h ht hj hu
      rw [ch_bytes, List.length_map] at this
      have h3 : xs.length * 56 ≤ (xs.length + sp.length) * 56 := Nat.mul_le_mul_right _ (by omega)
      omega
    · have hin : ∀ (l : List Chg), c ∈ l → c.s.data.toList.length ∈ DataW.weightsAll Try.prog 86 (l.map (chD (H := H))) := by
        intro l hl
        induction l with
        | nil => cases hl
        | cons x r ih =>
          simp only [List.map_cons, DataW.weightsAll, List.mem_append]
          rcases List.mem_cons.1 hl with rfl | hl
          · left
            simp [chD, vD, DataW.weights, DataW.weightsEach, Try.underlying86, Try.underlying44]
          · exact .inr (ih hl)
      have h4 := List.all_eq_true.1 h _ (DataW.weights_mem_each ht hj c.s.data.toList.length (by simp only [DataW.weights, hu, List.mem_cons, List.mem_append]; exact .inr (.inl (hin xs hc))))
      simp at h4
      omega

/-- What they are of bulk. -/
theorem bulk_C (xs : List Chg) : totC xs ≤ Rows.uptoBulkAll (xs.map (chD (H := H))) := by
  induction xs with
  | nil => simp [totC, sizeC, Rows.uptoBulkAll]
  | cons x r ih =>
    have e : totC (x :: r) = totC r + (1 + x.s.size) := by simp [totC, sizeC]; omega
    have e2 : x.s.data.toList.length = x.s.size := by rw [Array.length_toList]; rfl
    rw [e, List.map_cons, Rows.uptoBulkAll]
    simp only [chD, vD, Rows.uptoBulk, Rows.uptoBulkAll]
    omega
theorem bulk_A (xs : List Att) : totA xs ≤ Rows.uptoBulkAll (xs.map (atD (H := H))) := by
  induction xs with
  | nil => simp [totA, sizeA, Rows.uptoBulkAll]
  | cons x r ih =>
    have e : totA (x :: r) = totA r + (1 + x.s.size) := by simp [totA, sizeA]; omega
    have e2 : x.s.data.toList.length = x.s.size := by rw [Array.length_toList]; rfl
    rw [e, List.map_cons, Rows.uptoBulkAll]
    simp only [atD, vD, Rows.uptoBulk, Rows.uptoBulkAll]
    omega
theorem in_bulk {d : DataW H} : ∀ {l : List (DataW H)}, d ∈ l → Rows.uptoBulk d ≤ Rows.uptoBulkAll l
  | x :: r, h => by
    rw [Rows.uptoBulkAll]
    rcases List.mem_cons.1 h with rfl | h
    · omega
    · have := in_bulk h; omega
theorem small_C {ds : List (DataW H)} (hk : Rows.uptoSmall H ds = true) {d : DataW H} {xs : List Chg} (hd : InC d xs) (hm : d ∈ ds) : totC xs ≤ 1048576 := by
  have h : Rows.uptoBulkAll ds ≤ 1048576 := of_decide_eq_true hk
  have h2 := in_bulk hm
  rcases hd with ⟨-, rfl⟩ | ⟨sp, rfl⟩
  · simp [totC, sizeC]
  · have := bulk_C (H := H) xs
    rw [Rows.uptoBulk] at h2
    omega
theorem small_A {ds : List (DataW H)} (hk : Rows.uptoSmall H ds = true) {d : DataW H} {xs : List Att} (hd : InA d xs) (hm : d ∈ ds) : totA xs ≤ 1048576 := by
  have h : Rows.uptoBulkAll ds ≤ 1048576 := of_decide_eq_true hk
  have h2 := in_bulk hm
  rcases hd with ⟨-, rfl⟩ | ⟨sp, rfl⟩
  · simp [totA, sizeA]
  · have := bulk_A (H := H) xs
    rw [Rows.uptoBulk] at h2
    omega
end
end Go.Proofs.Ytmbjjaflgdfihaa

/- C13: known -/
namespace Go.Proofs.Ytmbjjaflgdfihaa
open Go.RowKit
set_option linter.unusedVariables false

@[reducible] def e0 : ByteArray := ⟨#[]⟩
end Go.Proofs.Ytmbjjaflgdfihaa

/- C15: the contracts in the form in which the laws take them -/
namespace Go.Proofs.Ytmbjjaflgdfihaa
open Go.RowKit
set_option linter.unusedVariables false

theorem rows_two {w : World} {x y : Option Addr × Nat × Nat} {a b : List Att} (h1 : Arow w (slV x) a) (h2 : Arow w (slV y) b) : Rows5 w [x, y] [a, b] :=
  ⟨rfl, fun j h1' h2' => by
    match j, h1' with
    | 0, _ => exact h1
    | 1, _ => exact h2⟩
theorem rows_one {w : World} {x : Option Addr × Nat × Nat} {a : List Att} (h1 : Arow w (slV x) a) : Rows5 w [x] [a] :=
  ⟨rfl, fun j h1' h2' => by
    match j, h1' with
    | 0, _ => exact h1⟩
/-- The empty one, wherever it is told. -/
theorem crow_nil (W : World) : Crow W (.slice none 0 0) [] := Row.nil W
end Go.Proofs.Ytmbjjaflgdfihaa

/- C20: PatchMay -/
namespace Go.Proofs.Ytmbjjaflgdfihaa
open Go.RowKit
set_option linter.unusedVariables false

theorem new_h (ks : List Key) (hW : ∀ k ∈ ks, KeyW k) (hm : mayKs ks) (v : Value) (W : World) (hv : Krow W v ks) :
    Calls Try.prog 6 #[v] W fun e w' => ∃ s, e = .returned (.tuple #[.pointer (some s), .int .i64 0]) ∧ Hid (Sch w' (.pointer (some s)) ks) ∧ Below W.heap.size W w' :=
  (new_yes hv hW hm).mono fun e w' ⟨s, he, hs, hb⟩ => ⟨s, he, Lib.hid hs, hb⟩
theorem newno_h (ks : List Key) (hW : ∀ k ∈ ks, KeyW k) (hm : ¬ mayKs ks) (v : Value) (W : World) (hv : Krow W v ks) :
    Calls Try.prog 6 #[v] W fun e w' => e = .returned (.tuple #[.pointer none, .int .i64 3]) ∧ Below W.heap.size W w' := new_no hv hW hm
end Go.Proofs.Ytmbjjaflgdfihaa

/- UW: calls that came in: a row of them, and one by value -/
namespace Go.Proofs.Ytmbjjaflgdfihaa
open Go.RowKit Go.ChangeShapes Go.WideShapes Go.Deep
set_option linter.unusedVariables false

section
variable {H : Type} {enc : TypeId × Value → H} {w : World} {base : Nat} {spare : Nat → Bool} {held : Bool}
/-- A slice that came in, whatever its elements are. -/
theorem open_rowP {α : Type} (C : Cel α) (P : α → Prop) {t e : TypeId} (ht : Try.prog.underlying t = some (.slice e)) (hce : Try.prog.cellsOf e = C.m)
    (hel : ∀ (n : Nat) (cs : List Value) (y : DataW H × List MemPlace), DataW.trod enc Try.prog w base spare held n e cs = some y → ∃ x, P x ∧ cs = C.c x)
    {n : Nat} {v : Value} {x : DataW H × List MemPlace} (h : DataW.trod enc Try.prog w base spare held n t [v] = some x) : ∃ xs, Row C w v xs ∧ ∀ a ∈ xs, P a := by
  rcases open_slice ht h with ⟨hcs, -⟩ | ⟨a, len, cap, m, n', D, Pl, hcs, -, hl, hm, hmm, hx, hi⟩
  · injection hcs with hv _
    subst hv
    exact ⟨[], Row.nil w, by simp⟩
  · injection hcs with hv _
    subst hv
    have hlm : len ≤ m := by rw [hmm]; split <;> omega
    have hex : ∀ i : Fin len, ∃ k : α, P k ∧ ∀ j u, (C.c k)[j]? = some u → w.cell? (a.add (i.1 * C.m + j)) = some u := by
      rintro ⟨i, hil⟩
      obtain ⟨cs', hc, ht⟩ := hi i (by omega)
      obtain ⟨k, hw, rfl⟩ := hel _ _ _ ht
      rw [hce] at hc
      obtain ⟨-, hcl, hat⟩ := World.cells?_some hc
      refine ⟨k, hw, fun j u hu => ?_⟩
      have hj : j < C.m := by have := (List.getElem?_eq_some_iff.1 hu).1; rwa [C.len] at this
      have := hat j hj
      rw [hu, add_add] at this
      exact this
    obtain ⟨f, hf⟩ := Classical.axiomOfChoice hex
    have hlen : (List.ofFn f).length = len := by simp
    refine ⟨List.ofFn f, ?_, fun k hk => ?_⟩
    · by_cases h0 : len = 0
      · subst h0
        exact .inl ⟨some a, cap, rfl, by simp, hm, by simp⟩
      · obtain ⟨b, off, spot⟩ := a
        have hp : 0 < (C.c (f ⟨0, by omega⟩)).length := by rw [C.len]; exact C.pos
        have hspot : spot = none := by
          have := (hf ⟨0, by omega⟩).2 0 _ (List.getElem?_eq_getElem hp)
          simpa [Addr.add] using World.cell?_spot this
        subst hspot
        refine .inr ⟨b, off, cap, by rw [hlen], by omega, by omega, hm, fun j u hu => ?_⟩
        have hjl : j < len * C.m := by
          have := (List.getElem?_eq_some_iff.1 hu).1
          rwa [fl_len, hlen] at this
        have e1 : j / C.m * C.m + j % C.m = j := by rw [Nat.mul_comm]; exact Nat.div_add_mod j C.m
        have hd : j / C.m < len := by rw [Nat.div_lt_iff_lt_mul C.pos]; exact hjl
        have g := fl_get C (List.ofFn f) (j / C.m) (j % C.m) (by omega) (Nat.mod_lt _ C.pos)
        rw [e1, hu] at g
        have := (hf ⟨j / C.m, hd⟩).2 (j % C.m) u (by rw [g]; simp)
        rw [e1, Go.WideShapes.add_plain] at this
        exact this
    · obtain ⟨i, rfl⟩ := List.mem_ofFn.1 hk
      exact (hf i).1

def intC : Cel Int := ⟨fun x => [.int .i32 x], 1, fun _ => rfl, fun x u hu => by obtain rfl := List.mem_singleton.1 hu; rfl, by decide⟩
theorem fl_intC : ∀ xs : List Int, fl intC xs = xs.map (Value.int .i32)
  | [] => rfl
  | x :: r => by rw [fl_cons, fl_intC r]; rfl
theorem int_cells10 : Try.prog.cellsOf 21 = 1 := by kernel_rfl
set_option maxRecDepth 100000 in
theorem open_ints {n : Nat} {v : Value} {x : DataW H × List MemPlace} (h : DataW.trod enc Try.prog w base spare held n 36 [v] = some x) : ∃ xs, Ints .i32 w v xs := by
  obtain ⟨xs, h1, -⟩ := open_rowP intC (fun _ => True) Try.underlying36 int_cells10 (fun n cs y hy => by
    obtain ⟨a0, e0, -, -⟩ := DataW.trod_int Try.underlying21 hy
    exact ⟨a0, trivial, e0⟩) h
  refine ⟨xs, ?_⟩
  rcases h1 with h1 | ⟨b, off, cap, hv, h0, h1, h2, h3⟩
  · exact .inl h1
  · refine .inr ⟨b, off, cap, hv, h0, h1, h2, fun j hj => h3 j _ ?_⟩
    rw [fl_intC]
    simp [List.getD, hj]
end
end Go.Proofs.Ytmbjjaflgdfihaa

/- BU: blocks apart, variables, rounds (out of NA, WF, TA, KR, KS, QF, KD, OD) -/
namespace Go
section
variable {l n : Nat} {P : Program} {ops : Array Oper} {Q : Exit → Act → World → Prop} {a : Act} {w : World}
end
end Go
namespace Go
section
variable {l n : Nat} {P : Program} {ops : Array Oper} {Q : Exit → Act → World → Prop}
end
end Go
namespace Go.Proofs.Ytmbjjaflgdfihaa
open Go.RowKit Go.Shelf
set_option linter.unusedVariables false
set_option maxRecDepth 100000
/-! ### blocks apart -/
def sets (L : List Value) : Nat → List Value → List Value
  | _, [] => L
  | o, v :: r => sets (L.set o v) (o + 1) r
theorem sets_len : ∀ (vs : List Value) (L : List Value) (o : Nat), (sets L o vs).length = L.length
  | [], L, o => rfl
  | v :: r, L, o => by rw [sets, sets_len r]; simp
theorem sets_mid : ∀ (vs B A C : List Value), vs.length = B.length → sets (A ++ (B ++ C)) A.length vs = A ++ (vs ++ C)
  | [], [], A, C, _ => rfl
  | [], _ :: _, A, C, h => by simp at h
  | _ :: _, [], A, C, h => by simp at h
  | v :: r, b :: B, A, C, h => by
    have e : (A ++ (b :: B ++ C)).set A.length v = (A ++ [v]) ++ (B ++ C) := by
      rw [List.set_append_right _ _ (Nat.le_refl _), Nat.sub_self]; simp
    have e2 : A.length + 1 = (A ++ [v]).length := by simp
    rw [sets, e, e2, sets_mid r B (A ++ [v]) C (by simpa using h)]
    simp
theorem owns_kept {w w' : World} {base : Nat} {e : TypeId} {size : Nat} {v : Value} {n : Nat} {xs : List Value} (h : w.ownsRow base e size v n xs) (hk : ∀ g, v.ownBlock = some g → w'.heap[g]? = w.heap[g]?) : w'.ownsRow base e size v n xs := by
  refine ⟨h.1, ?_⟩
  rcases h.2 with hn | ⟨g, cap, cur, rfl, hB, hg, rest⟩
  · exact .inl hn
  · exact .inr ⟨g, cap, cur, rfl, hB, (hk g rfl).trans hg, rest⟩
theorem own_tag {w : World} {base : Nat} {e : TypeId} {size : Nat} {v : Value} {n : Nat} {xs : List Value} (h : w.ownsRow base e size v n xs) {g : Nat} (hg : v.ownBlock = some g) : ∃ cur, w.heap[g]? = some (.cells cur e (0, 0)) := by
  rcases h.2 with ⟨rfl, _⟩ | ⟨g', cap, cur, rfl, hB, hh, rest⟩
  · simp [Value.ownBlock] at hg
  · simp [Value.ownBlock] at hg; subst hg; exact ⟨cur, hh⟩
theorem own_lt7 {w : World} {base : Nat} {e : TypeId} {size : Nat} {v : Value} {n : Nat} {xs : List Value} (h : w.ownsRow base e size v n xs) {g : Nat} (hg : v.ownBlock = some g) : g < w.heap.size := by
  obtain ⟨cur, hc⟩ := own_tag h hg
  exact (Array.getElem?_eq_some_iff.1 hc).1
theorem lt_of_heap {w : World} {k : Nat} {o : Obj} (h : w.heap[k]? = some o) : k < w.heap.size := (Array.getElem?_eq_some_iff.1 h).1
/-- But for blocks of S, what lay there lies there. -/
structure Off (S : Nat → Prop) (w w' : World) : Prop where
  os : w'.os = w.os
  tape : w'.tape = w.tape
  output : w'.output = w.output
  size : w.heap.size ≤ w'.heap.size
  block : ∀ k, k < w.heap.size → ¬ S k → w'.heap[k]? = w.heap[k]?
theorem Off.refl (S : Nat → Prop) (w : World) : Off S w w := ⟨rfl, rfl, rfl, Nat.le_refl _, fun _ _ _ => rfl⟩
theorem Off.trans {S : Nat → Prop} {a b c : World} (h : Off S a b) (k : Off (fun i => S i ∨ a.heap.size ≤ i) b c) : Off S a c :=
  ⟨k.os.trans h.os, k.tape.trans h.tape, k.output.trans h.output, Nat.le_trans h.size k.size, fun i hi hS =>
    (k.block i (Nat.lt_of_lt_of_le hi h.size) (fun hh => by rcases hh with hh | hh; exact hS hh; omega)).trans (h.block i hi hS)⟩
theorem Off.seq {S : Nat → Prop} {a b c : World} (h : Off S a b) (k : Off S b c) : Off S a c :=
  ⟨k.os.trans h.os, k.tape.trans h.tape, k.output.trans h.output, Nat.le_trans h.size k.size, fun i hi hS => (k.block i (Nat.lt_of_lt_of_le hi h.size) hS).trans (h.block i hi hS)⟩
theorem Off.cut {S : Nat → Prop} {a b : World} (h : Off (fun k => S k ∨ a.heap.size ≤ k) a b) : Off S a b :=
  ⟨h.os, h.tape, h.output, h.size, fun k hk hn => h.block k hk (fun hh => by rcases hh with hh | hh; exact hn hh; omega)⟩
theorem Off.mono {S S' : Nat → Prop} {a b : World} (h : Off S a b) (hS : ∀ k, S k → S' k) : Off S' a b := ⟨h.os, h.tape, h.output, h.size, fun k hk hn => h.block k hk (fun hh => hn (hS k hh))⟩
theorem Off.of_below {S : Nat → Prop} {a b : World} (h : Below a.heap.size a b) : Off S a b := ⟨h.os, h.tape, h.output, h.size, fun k hk _ => h.block k hk⟩
theorem Off.of_grown {S : Nat → Prop} {a b : World} {row : Option Nat} (h : a.grownBy b row) (hr : ∀ g, row = some g → S g) : Off S a b :=
  ⟨h.os, h.tape, h.output, h.size, fun k hk hn => h.block k hk (fun e => hn (hr k e.symm))⟩
theorem Off.below {S : Nat → Prop} {a b : World} {B : Nat} (h : Off S a b) (hS : ∀ k, S k → B ≤ k) (hB : B ≤ a.heap.size) : Below B a b :=
  ⟨h.os, h.tape, h.output, h.size, fun k hk => h.block k (by omega) (fun hh => by have := hS k hh; omega)⟩
theorem far {w w' : World} {row : Option Nat} (hg : w.grownBy w' row) {k : Nat} {o : Obj} (hk : w.heap[k]? = some o) (hr : ∀ g, row = some g → ∃ o', w.heap[g]? = some o' ∧ o' ≠ o) : w'.heap[k]? = some o := by
  rw [hg.block k (Array.getElem?_eq_some_iff.1 hk).1]
  · exact hk
  · intro e
    obtain ⟨o', h1, h2⟩ := hr k e.symm
    rw [hk] at h1
    exact h2 (Option.some.inj h1).symm
theorem own_far {w w' : World} {row : Option Nat} {base : Nat} {e : TypeId} {size : Nat} {v : Value} {n : Nat} {xs : List Value} (hg : w.grownBy w' row) (h : w.ownsRow base e size v n xs) (hr : ∀ g, row = some g → ∃ o', w.heap[g]? = some o' ∧ ∀ c, o' ≠ .cells c e (0, 0)) : w'.ownsRow base e size v n xs := by
  refine owns_kept h fun g hgb => ?_
  obtain ⟨cur, hc⟩ := own_tag h hgb
  rw [hc]
  exact far hg hc (fun g' hg' => by obtain ⟨o', h1, h2⟩ := hr g' hg'; exact ⟨o', h1, h2 _⟩)
theorem grown_set {w : World} {g o : Nat} (u : Value) : w.grownBy (w.setCell ⟨g, o, none⟩ u) (some g) :=
  ⟨rfl, rfl, rfl, by simp [World.setCell], fun k _ hk => Below.heap_setCell _ _ _ _ (fun e => hk (by rw [e]))⟩
theorem heap_set {w : World} {g o : Nat} {c : Array Value} {e : TypeId} {fz : Nat × Nat} (u : Value) (h : w.heap[g]? = some (.cells c e fz)) : (w.setCell ⟨g, o, none⟩ u).heap[g]? = some (.cells (c.setIfInBounds o u) e fz) := by
  simp [World.setCell, Array.getElem?_modify, h]
theorem owns_set {w : World} {base : Nat} {e : TypeId} {size : Nat} {g cap n : Nat} {xs : List Value} (h : w.ownsRow base e size (.slice (some ⟨g, 0, none⟩) n cap) n xs) {j : Nat} (u : Value) :
    (w.setCell ⟨g, j, none⟩ u).ownsRow base e size (.slice (some ⟨g, 0, none⟩) n cap) n (xs.set j u) := by
  refine ⟨by rw [List.length_set]; exact h.1, ?_⟩
  rcases h.2 with ⟨hn, _⟩ | ⟨g', cap', cur, hv, hB, hg, hc, hm, hs, ht⟩
  · cases hn
  · injection hv with e1 e2 e3
    injection e1 with e1
    injection e1 with e1
    subst e1 e3
    refine .inr ⟨g, cap, cur.setIfInBounds j u, rfl, hB, heap_set u hg, hc, hm, by simpa using hs, ?_⟩
    rw [Array.toList_setIfInBounds, List.take_set, ht]
/-- What an owned row's slice looks like. -/
theorem own_shape {w : World} {base : Nat} {e : TypeId} {size : Nat} {v : Value} {n : Nat} {xs : List Value} (h : w.ownsRow base e size v n xs) : ∃ a c, v = .slice a n c ∧ (a = none ∨ ∃ g, a = some ⟨g, 0, none⟩) ∧ n ≤ c := by
  rcases h.2 with ⟨rfl, rfl⟩ | ⟨g, cap, cur, rfl, _, _, hc, _⟩
  · exact ⟨none, 0, rfl, .inl rfl, Nat.le_refl _⟩
  · exact ⟨_, cap, rfl, .inr ⟨g, rfl⟩, hc⟩
theorem own_nil (w : World) (base : Nat) (e : TypeId) (size : Nat) : w.ownsRow base e size (.slice none 0 0) 0 [] := ⟨by simp, .inl ⟨rfl, rfl⟩⟩

section
variable {S : Nat → Prop} {w w' : World}
theorem Off.below_r {a b c : World} (h : Off S a b) (k : Below b.heap.size b c) : Off S a c := h.seq (Off.of_below k)
theorem Off.below_l {a b c : World} (h : Below a.heap.size a b) (k : Off S b c) : Off S a c := (Off.of_below h).seq k
/-- Block b holds these cells, as a variable of type t. -/
def Cb (b : Nat) (t : TypeId) (cs : Array Value) (w : World) : Prop := w.heap[b]? = some (.cells cs t (0, 0))
theorem Cb.below {b : Nat} {t : TypeId} {cs : Array Value} (h : Cb b t cs w) (hb : Below w.heap.size w w') : Cb b t cs w' := (hb.block b (lt_of_heap h)).trans h
theorem Cb.off {b : Nat} {t : TypeId} {cs : Array Value} {X : Nat → Prop} (h : Cb b t cs w) (ho : Off X w w') (hx : ¬ X b) : Cb b t cs w' := (ho.block b (lt_of_heap h) hx).trans h
theorem Cb.alloc {b : Nat} {t : TypeId} {cs : Array Value} (h : Cb b t cs w) (o : Obj) : Cb b t cs (w.alloc o) := (heap_alloc_old w o (lt_of_heap h)).trans h
theorem Cb.lt {b : Nat} {t : TypeId} {cs : Array Value} (h : Cb b t cs w) : b < w.heap.size := lt_of_heap h
theorem Cb.set {b : Nat} {t : TypeId} {cs : Array Value} (h : Cb b t cs w) (ds : Array Value) : Cb b t ds (w.setRow b ds) := setRow_heap _ _ _ ds _ _ h
theorem Cb.other {b c : Nat} {t : TypeId} {cs : Array Value} (h : Cb b t cs w) (hn : b ≠ c) (ds : Array Value) : Cb b t cs (w.setRow c ds) := (setRow_other w c b ds hn).trans h
theorem Cb.cell {b : Nat} {t : TypeId} {cs : Array Value} (h : Cb b t cs w) (o : Nat) : w.cell? ⟨b, o, none⟩ = cs[o]? := cell_of_row w b o _ _ _ h
theorem Cb.frozen {b : Nat} {t : TypeId} {cs : Array Value} (h : Cb b t cs w) (o : Nat) : w.frozen? ⟨b, o, none⟩ = false := by simp [World.frozen?, show w.heap[b]? = _ from h]
theorem cb_new (w : World) (t : TypeId) (cs : Array Value) : Cb w.heap.size t cs (w.alloc (.cells cs t)) := heap_alloc_new w _
theorem below_row {B b : Nat} {a : World} {cs : Array Value} (h : Below B a w) (hb : B ≤ b) : Below B a (w.setRow b cs) := below_setRow h hb cs
end
/-- A part of a row, loaded whole. -/
theorem wpList_load_midw {P : Program} {ops : Array Oper} {rest : List Oper} {op : Oper} {a : Act} {w : World} {Q : Exit → Act → World → Prop} (hw : Region.wanted op (yielded ops a.tmps) = true) (ty : TypeId) (x : Operand) (ho : op.op = .load ty x)
    (b o : Nat) (hx : a.eval x = .pointer (some ⟨b, o, none⟩)) (cs : List Value) (d : TypeDesc) (hc : w.rangeAt b o cs)
    (hu : P.underlying ty = some d) (hd : d.isRow = true) (hi : (P.info? ty).map (·.size) = some cs.length)
    (h : wpList P ops Q rest (a.put op.dst (.agg cs.toArray)) w) : wpList P ops Q (op :: rest) a w :=
  wpList_step fun K hK => by
    rw [if_pos hw]
    exact wp_load_mid ty x ho b o hx cs d hc hu hd hi (hK _ _ h)
theorem fold_sets (off : Nat) : ∀ (L : List Value) (k : Nat) (A : Array Value), ((L.zipIdx k).foldl (fun cs x => cs.setIfInBounds (off + x.2) x.1) A).toList = sets A.toList (off + k) L
  | [], k, A => rfl
  | v :: r, k, A => by
    rw [List.zipIdx_cons, List.foldl_cons, fold_sets off r (k + 1), sets]
    simp [Nat.add_assoc]
theorem fold_setsA (off : Nat) (c A : Array Value) : (c.zipIdx.foldl (fun cs (x : Value × Nat) => cs.setIfInBounds (off + x.2) x.1) A).toList = sets A.toList off c.toList := by
  rw [← Array.foldl_toList, Array.toList_zipIdx, fold_sets off c.toList 0 A, Nat.add_zero]
/-- The rest of a walk asks of a world only this. -/
theorem with_worldT {P : Program} {c : Code} {Q : Exit → Act → World → Prop} {a : Act} {W0 : World} (F : World → Prop) (h0 : F W0) (h : ∀ W, F W → c.wp P Q a W) : c.wp P Q a W0 := h _ h0
theorem with_worldTL {P : Program} {ops : Array Oper} {rest : List Oper} {Q : Exit → Act → World → Prop} {a : Act} {W0 : World} (F : World → Prop) (h0 : F W0) (h : ∀ W, F W → wpList P ops Q rest a W) : wpList P ops Q rest a W0 := h _ h0
section
variable {w0 w W W' : World}
end
/-- What a round keeps: all that lay below n0, but for some. -/
structure KpX (n0 : Nat) (X : Nat → Prop) (W W' : World) : Prop where
  os : W'.os = W.os
  tape : W'.tape = W.tape
  output : W'.output = W.output
  size : W.heap.size ≤ W'.heap.size
  keep : ∀ k, k < n0 → k < W.heap.size → ¬ X k → W'.heap[k]? = W.heap[k]?
section
variable {n0 : Nat} {X S : Nat → Prop} {W W' W1 w w' : World}
theorem KpX.refl (n0 : Nat) (X : Nat → Prop) (W : World) : KpX n0 X W W := ⟨rfl, rfl, rfl, Nat.le_refl _, fun _ _ _ _ => rfl⟩
theorem KpX.trans (h : KpX n0 X W W1) (k : KpX n0 X W1 W') : KpX n0 X W W' := ⟨k.os.trans h.os, k.tape.trans h.tape, k.output.trans h.output, Nat.le_trans h.size k.size, fun i hi hl hx => (k.keep i hi (Nat.lt_of_lt_of_le hl h.size) hx).trans (h.keep i hi hl hx)⟩
theorem KpX.of_below (h : Below W.heap.size W W') : KpX n0 X W W' := ⟨h.os, h.tape, h.output, h.size, fun k _ hk _ => h.block k hk⟩
theorem KpX.off (h : KpX n0 X W W') : Off (fun k => X k ∨ n0 ≤ k) W W' := ⟨h.os, h.tape, h.output, h.size, fun k hk hx => h.keep k (by
  rcases Nat.lt_or_ge k n0 with h | h
  · exact h
  · exact absurd (.inr h) hx) hk (fun hh => hx (.inl hh))⟩
end
section
variable {W W' : World}
end
/-- A whole row out of its block, at an operation that is wanted, whatever it is guarded by. -/
theorem wpList_load_roww {P : Program} {ops : Array Oper} {rest : List Oper} {o : Oper} {a : Act} {w : World} {Q : Exit → Act → World → Prop} (ty : TypeId) (x : Operand) (ho : o.op = .load ty x)
    (g : Nat) (hx : a.eval x = .pointer (some ⟨g, 0, none⟩)) (hw : Region.wanted o (yielded ops a.tmps) = true) (t : TypeId) (cs : Array Value) (fr : Nat × Nat) (d : TypeDesc) (hg : w.heap[g]? = some (.cells cs t fr))
    (hu : P.underlying ty = some d) (hd : (match d with | .struct _ | .array _ _ => true | _ => false) = true) (hi : (P.info? ty).map (·.size) = some cs.size)
    (h : wpList P ops Q rest (a.put o.dst (.agg cs)) w) : wpList P ops Q (o :: rest) a w :=
  wpList_step fun K hK => by
    rw [if_pos hw]
    exact wp_load_row ty x ho g hx t cs fr d hg hu hd hi (hK _ _ h)

/-! ### a region that draws its order: whatever may come up -/
section
variable {P : Program} {l : List Oper} {Q : Exit → Act → World → Prop} {md : Region.Mode} {S : World → Prop} {fuel : Nat} {listed : Array Bool} {a : Act} {w : World}
theorem h_all1 {i : Nat} (hr : Region.ready md l.toArray listed = [i])
    (h1 : wpOp P l.toArray Q i (fun a' w' => S w' ∧ wpAnyH P md l.toArray Q S fuel (listed.setIfInBounds i true) a' w') a w) : wpAnyH P md l.toArray Q S (fuel + 1) listed a w :=
  wpAnyH_all hr (by simp) fun x hx => by simp at hx; subst hx; exact h1
theorem h_all2 {i j : Nat} (hr : Region.ready md l.toArray listed = [i, j])
    (h1 : wpOp P l.toArray Q i (fun a' w' => S w' ∧ wpAnyH P md l.toArray Q S fuel (listed.setIfInBounds i true) a' w') a w)
    (h2 : wpOp P l.toArray Q j (fun a' w' => S w' ∧ wpAnyH P md l.toArray Q S fuel (listed.setIfInBounds j true) a' w') a w) : wpAnyH P md l.toArray Q S (fuel + 1) listed a w :=
  wpAnyH_all hr (by simp) fun x hx => by
    simp at hx
    rcases hx with rfl | rfl
    · exact h1
    · exact h2
theorem h_all3 {i j k : Nat} (hr : Region.ready md l.toArray listed = [i, j, k])
    (h1 : wpOp P l.toArray Q i (fun a' w' => S w' ∧ wpAnyH P md l.toArray Q S fuel (listed.setIfInBounds i true) a' w') a w)
    (h2 : wpOp P l.toArray Q j (fun a' w' => S w' ∧ wpAnyH P md l.toArray Q S fuel (listed.setIfInBounds j true) a' w') a w)
    (h3 : wpOp P l.toArray Q k (fun a' w' => S w' ∧ wpAnyH P md l.toArray Q S fuel (listed.setIfInBounds k true) a' w') a w) : wpAnyH P md l.toArray Q S (fuel + 1) listed a w :=
  wpAnyH_all hr (by simp) fun x hx => by
    simp at hx
    rcases hx with rfl | rfl | rfl
    · exact h1
    · exact h2
    · exact h3
/-- A call. -/
theorem o_call {R : Act → World → Prop} {i : Nat} {oi : Oper} {f : FuncId} {args : Array Value} (hi : l[i]? = some oi) (hw : Region.wanted oi (yielded l.toArray a.tmps) = true)
    (hv : (execOp a.eval oi).run P w = .ok (.enter f args) w)
    (hc : Calls P f args w fun e w' => ∃ v, e = .returned v ∧ R (a.put oi.dst v) w') : wpOp P l.toArray Q i R a w := by
  have hi2 : l.toArray[i]? = some oi := by simpa using hi
  unfold wpOp
  simp only [hi2, hw, if_true]
  left
  unfold Oper.wp
  rw [hv]
  simp only [Oper.upon]
  refine hc.mono fun e w' ⟨v, he, h1⟩ => ?_
  subst he
  exact h1
/-- An operation by a law of its own. -/
theorem o_step {R : Act → World → Prop} {i : Nat} {oi : Oper} (hi : l[i]? = some oi) (hw : Region.wanted oi (yielded l.toArray a.tmps) = true)
    (h : oi.wp P a w R Q) : wpOp P l.toArray Q i R a w := by
  have hi2 : l.toArray[i]? = some oi := by simpa using hi
  unfold wpOp
  simp only [hi2, hw, if_true]
  left
  exact h
theorem h_val {i : Nat} {oi : Oper} {v : Value} (hi : l[i]? = some oi) (hs : Region.noSelect l.toArray = true) (hf : Region.free md l.toArray listed i = true) (hr : (Region.ready md l.toArray listed).contains i = true)
    (hQ : ∀ c a w, Q (.panic c) (a.put oi.dst v) w → Q (.panic c) a w) (hw : Region.wanted oi (yielded l.toArray a.tmps) = true) (hv : ∀ w, S w → (execOp a.eval oi).run P w = .ok (.value v) w) (hS : S w)
    (h : wpAnyH P md l.toArray Q S fuel (listed.setIfInBounds i true) (a.put oi.dst v) w) : wpAnyH P md l.toArray Q S (fuel + 1) listed a w :=
  wpAnyH_take (by simpa using hi) hs hf hr hQ (.inl ⟨hw, hv⟩) hS h
theorem h_call {i : Nat} {oi : Oper} {f : FuncId} {args : Array Value} (hi : l[i]? = some oi) (hr : Region.ready md l.toArray listed = [i]) (hw : Region.wanted oi (yielded l.toArray a.tmps) = true)
    (hv : (execOp a.eval oi).run P w = .ok (.enter f args) w)
    (hc : Calls P f args w fun e w' => ∃ v, e = .returned v ∧ S w' ∧ wpAnyH P md l.toArray Q S fuel (listed.setIfInBounds i true) (a.put oi.dst v) w') : wpAnyH P md l.toArray Q S (fuel + 1) listed a w := by
  refine wpAnyH_all hr (by simp) fun j hj => ?_
  simp at hj
  subst hj
  have hi2 : l.toArray[j]? = some oi := by simpa using hi
  unfold wpOp
  simp only [hi2, hw, if_true]
  left
  unfold Oper.wp
  rw [hv]
  simp only [Oper.upon]
  refine hc.mono fun e w' ⟨v, he, h1, h2⟩ => ?_
  subst he
  exact ⟨h1, h2⟩
theorem h_start {id : Nat} (hm : P.follows .mixedOrders = true) (h : wpAnyH P .any l.toArray Q S l.toArray.size (Array.replicate l.toArray.size false) a w.drew) : (Code.region id l.toArray true).wp P Q a w := wp_region_held hm h
theorem h_done (hr : Region.ready md l.toArray listed = []) (h : Q .normal a w) : wpAnyH P md l.toArray Q S fuel listed a w := wpAnyH_done hr h _
/-- An operation that turns the world, the only one that may come up. -/
theorem h_step {i : Nat} {oi : Oper} (hi : l[i]? = some oi) (hr : Region.ready md l.toArray listed = [i]) (hw : Region.wanted oi (yielded l.toArray a.tmps) = true)
    (h : ∀ K : Act → World → Prop, (∀ a' w', S w' → wpAnyH P md l.toArray Q S fuel (listed.setIfInBounds i true) a' w' → K a' w') → oi.wp P a w K Q) : wpAnyH P md l.toArray Q S (fuel + 1) listed a w := by
  refine wpAnyH_all hr (by simp) fun j hj => ?_
  simp at hj
  subst hj
  have hi2 : l.toArray[j]? = some oi := by simpa using hi
  unfold wpOp
  simp only [hi2, hw, if_true]
  left
  exact h _ fun a' w' h1 h2 => ⟨h1, h2⟩
end
theorem wp_val {P : Program} {op : Oper} {a : Act} {w : World} {K : Act → World → Prop} {Q : Exit → Act → World → Prop} (v : Value) (hv : (execOp a.eval op).run P w = .ok (.value v) w) (h : K (a.put op.dst v) w) : op.wp P a w K Q := by
  unfold Oper.wp
  rw [hv]
  exact h
theorem wp_skip {P : Program} {op : Oper} {a : Act} {w w' : World} {K : Act → World → Prop} {Q : Exit → Act → World → Prop} (hv : (execOp a.eval op).run P w = .ok .skip w') (h : K (a.put op.dst undef) w') : op.wp P a w K Q := by
  unfold Oper.wp
  rw [hv]
  exact h
/-- A region that draws its order, as it is handed to the hand walk, within a round or not. -/
theorem h_skip {P : Program} {l : List Oper} {Q : Exit → Act → World → Prop} {md : Region.Mode} {S : World → Prop} {fuel : Nat} {listed : Array Bool} {a : Act} {w : World} {i : Nat} {oi : Oper} (hi : l[i]? = some oi) (hs : Region.noSelect l.toArray = true) (hf : Region.free md l.toArray listed i = true) (hr : (Region.ready md l.toArray listed).contains i = true)
    (hQ : ∀ c a w, Q (.panic c) (a.put oi.dst undef) w → Q (.panic c) a w) (hw : Region.wanted oi (yielded l.toArray a.tmps) = false) (hS : S w)
    (h : wpAnyH P md l.toArray Q S fuel (listed.setIfInBounds i true) (a.put oi.dst undef) w) : wpAnyH P md l.toArray Q S (fuel + 1) listed a w :=
  wpAnyH_take (by simpa using hi) hs hf hr hQ (.inr ⟨hw, rfl⟩) hS h
end Go.Proofs.Ytmbjjaflgdfihaa
