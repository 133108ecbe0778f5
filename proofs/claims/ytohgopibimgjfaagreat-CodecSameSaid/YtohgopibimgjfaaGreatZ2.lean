import Derived.Test.YtohgopibimgjfaaGreatZ1
import Derived.Deep.AppendLies
import Derived.BigQuiet
import Derived.Deep.QuietTactic
import Derived.Lib.AppendZeros
import Derived.Laws.Cover3
import Derived.RegionTactic
import Derived.Shelf.Abstract
import Derived.Deep.Slices
import Derived.Deep.Fields
import Derived.ChangeArms
import Derived.ChangeSame
import Derived.ChangeMaps5
import Derived.Lib.SmallJoins
import Derived.OpenShut
import Derived.SizedLaws
import Derived.Deep.RegionHeld3
import Derived.Deep.RegionLaw
import Derived.Deep.Cut
import Derived.Deep.MidRow
import Derived.WalkKit
import Derived.OwnWalkIn
import Derived.TacticsInMore
import Derived.LoopNIn
import Derived.LoopIn
import Derived.StillTailTactics
import Derived.Laws.BitsAllLaws
import Derived.IntWalk
import Derived.Lib.SlBytesConst
/- A1: rows of whatever lies in m cells -/
namespace Go.Proofs.YtohgopibimgjfaaGreat
open Go.RowKit
set_option linter.unusedVariables false

/-- How an element lies: m cells, each whole. -/
structure Cel (α : Type) where
  c : α → List Value
  m : Nat
  len : ∀ x, (c x).length = m
  one : ∀ x, ∀ u ∈ c x, u.oneCell' = true
  pos : 0 < m

section
variable {α : Type} (C : Cel α)
def fl (xs : List α) : List Value := xs.flatMap C.c
theorem fl_nil : fl C [] = [] := rfl
theorem fl_cons (x : α) (r : List α) : fl C (x :: r) = C.c x ++ fl C r := rfl
theorem fl_app (a b : List α) : fl C (a ++ b) = fl C a ++ fl C b := by simp [fl]
theorem fl_one (x : α) : fl C [x] = C.c x := by simp [fl]
theorem fl_len : ∀ xs : List α, (fl C xs).length = xs.length * C.m
  | [] => by simp [fl]
  | x :: r => by rw [fl_cons, List.length_append, fl_len r, C.len, List.length_cons, Nat.add_mul]; omega
theorem fl_ones (xs : List α) : ∀ u ∈ fl C xs, u.oneCell' = true := by
  intro u hu
  obtain ⟨x, _, hx⟩ := List.mem_flatMap.1 hu
  exact C.one x u hx
theorem fl_get : ∀ (xs : List α) (j i : Nat) (hj : j < xs.length), i < C.m → (fl C xs)[j * C.m + i]? = (C.c xs[j])[i]?
  | x :: r, 0, i, _, hi => by
    rw [fl_cons, List.getElem?_append_left (by rw [C.len]; omega)]
    simp
  | x :: r, j + 1, i, hj, hi => by
    have e : (j + 1) * C.m + i = C.m + (j * C.m + i) := by rw [Nat.add_mul]; omega
    rw [fl_cons, List.getElem?_append_right (by rw [C.len]; omega)]
    have : (j + 1) * C.m + i - (C.c x).length = j * C.m + i := by rw [C.len]; omega
    rw [this, fl_get r j i (by simpa using hj) hi]
    simp
/-- A slice that reads as xs. -/
def Row (w : World) (v : Value) (xs : List α) : Prop :=
  (∃ a cap, v = .slice a 0 cap ∧ xs = [] ∧ cap ≤ maxLen ∧ (a = none → cap = 0)) ∨
  ∃ b off cap, v = .slice (some ⟨b, off, none⟩) xs.length cap ∧ 0 < xs.length ∧ xs.length ≤ cap ∧ cap ≤ maxLen ∧
    (∀ j u, (fl C xs)[j]? = some u → w.cell? ⟨b, off + j, none⟩ = some u)
variable {C}
theorem Row.below {B : Nat} {w w' : World} {v : Value} {xs : List α} (h : Row C w v xs) (hb : Below B w w') (hB : w.heap.size ≤ B) : Row C w' v xs := by
  rcases h with h | ⟨b, off, cap, rfl, h0, h1, h2, h3⟩
  · exact .inl h
  · refine .inr ⟨b, off, cap, rfl, h0, h1, h2, fun j u hu => ?_⟩
    have := h3 j u hu
    rw [← this]
    exact hb.cell (p := ⟨b, off + j, none⟩) (Nat.lt_of_lt_of_le (World.block_lt_of_cell? w _ this) hB)
theorem Row.shape {w : World} {v : Value} {xs : List α} (h : Row C w v xs) : ∃ a cap, v = .slice a xs.length cap := by
  rcases h with ⟨a, cap, rfl, rfl, hm, _⟩ | ⟨b, off, cap, rfl, h0, h1, hm, hc⟩
  · exact ⟨a, cap, rfl⟩
  · exact ⟨_, _, rfl⟩
theorem Row.len {w : World} {v : Value} {xs : List α} (h : Row C w v xs) : xs.length ≤ 9223372036854775807 := by
  rcases h with ⟨a, cap, rfl, rfl, _⟩ | ⟨b, off, cap, rfl, h0, h1, h2, h3⟩
  · simp
  · unfold maxLen at h2; omega
theorem Row.nil (w : World) : Row C w (.slice none 0 0) [] := .inl ⟨none, 0, rfl, rfl, by simp, fun _ => rfl⟩
theorem Row.opened {w : World} {a : Option Addr} {n cap : Nat} {xs : List α} (h : Row C w (.slice a n cap) xs) (h0 : 0 < xs.length) :
    ∃ b off, a = some ⟨b, off, none⟩ ∧ n = xs.length ∧ xs.length ≤ cap ∧ cap ≤ maxLen ∧ b < w.heap.size ∧
      (∀ j (hj : j < xs.length) i u, (C.c xs[j])[i]? = some u → w.cell? ⟨b, off + j * C.m + i, none⟩ = some u) ∧ (∀ j u, (fl C xs)[j]? = some u → w.cell? ⟨b, off + j, none⟩ = some u) := by
  rcases h with ⟨a, cap, hv, rfl, _⟩ | ⟨b, off, cap', hv, _, h1, hm, hc⟩
  · simp at h0
  · injection hv with e1 e2 e3
    subst e1 e2 e3
    have hat : ∀ j (hj : j < xs.length) i u, (C.c xs[j])[i]? = some u → w.cell? ⟨b, off + j * C.m + i, none⟩ = some u := fun j hj i u hu => by
      have hi : i < C.m := by have := (List.getElem?_eq_some_iff.1 hu).1; rwa [C.len] at this
      have := hc (j * C.m + i) u ((fl_get C xs j i hj hi).trans hu)
      rwa [← Nat.add_assoc] at this
    have hb : b < w.heap.size := by
      have hp : 0 < (C.c xs[0]).length := by rw [C.len]; exact C.pos
      exact World.block_lt_of_cell? w _ (hat 0 h0 0 _ (List.getElem?_eq_getElem hp))
    exact ⟨b, off, rfl, rfl, h1, hm, hb, hat, hc⟩
/-- A row that the call owns reads as what it owns. -/
theorem Row.of_owns {w : World} {base : Nat} {e : TypeId} {v : Value} {n : Nat} {xs : List α} (h : w.ownsRow base e C.m v n (fl C xs)) : Row C w v xs ∧ n = xs.length := by
  have hn : n = xs.length := by have := h.1; rw [fl_len] at this; exact (Nat.eq_of_mul_eq_mul_right C.pos this).symm
  subst hn
  refine ⟨?_, rfl⟩
  by_cases hx : xs = []
  · subst hx
    rcases h.2 with ⟨rfl, _⟩ | ⟨g, cap, cur, rfl, hb, hg, hc, hm, _⟩
    · exact .inl ⟨none, 0, rfl, rfl, by simp, fun _ => rfl⟩
    · exact .inl ⟨_, cap, rfl, rfl, hm, by simp⟩
  · have hpos : 0 < xs.length := List.length_pos_iff.2 hx
    rcases h.2 with ⟨rfl, h0⟩ | ⟨g, cap, cur, hv, hb, hg, hc, hm, _⟩
    · omega
    · subst hv
      refine .inr ⟨g, 0, cap, rfl, hpos, hc, hm, fun j u hu => ?_⟩
      have := h.cells (g := g) rfl j u hu
      rw [Go.WideShapes.add_plain] at this
      simpa using this
/-- The block of a row that the call owns lies from its base on. -/
theorem own_base {w : World} {base : Nat} {e : TypeId} {size : Nat} {v : Value} {n : Nat} {xs : List Value} (h : w.ownsRow base e size v n xs) {k : Nat} (hk : v.ownBlock = some k) : base ≤ k := by
  rcases h.2 with ⟨rfl, _⟩ | ⟨g, cap, cur, rfl, hb, _⟩
  · simp [Value.ownBlock] at hk
  · simp [Value.ownBlock] at hk; omega
theorem Row.built (w : World) (t : TypeId) (xs : List α) (hm : xs.length ≤ maxLen) : Row C (w.alloc (.cells (fl C xs).toArray t)) (.slice (some ⟨w.heap.size, 0, none⟩) xs.length xs.length) xs := by
  by_cases h0 : xs = []
  · subst h0; exact .inl ⟨_, 0, rfl, rfl, by simp, by simp⟩
  · refine .inr ⟨_, 0, _, rfl, List.length_pos_iff.2 h0, Nat.le_refl _, hm, fun j u hu => ?_⟩
    rw [cell_of_row (w.alloc (.cells (fl C xs).toArray t)) w.heap.size (0 + j) _ t (0, 0) (heap_alloc_new w _), ← hu]
    simp
theorem row_mid_len (xs : List α) {lo hi : Nat} (h1 : lo ≤ hi) (h2 : hi ≤ xs.length) : ((xs.take hi).drop lo).length = hi - lo := by rw [List.length_drop, List.length_take]; omega
/-- A part of a slice, as Go cuts it. -/
theorem Row.mid {w : World} {a : Option Addr} {n cap lo hi : Nat} {xs : List α} (h : Row C w (.slice a n cap) xs) (h1 : lo ≤ hi) (h2 : hi ≤ xs.length) :
    Row C w (sliced a lo hi cap C.m) ((xs.take hi).drop lo) := by
  have hl := row_mid_len xs h1 h2
  have hcm : cap ≤ maxLen ∧ (a = none → cap = 0) ∧ xs.length ≤ cap := by
    rcases h with ⟨a', cap', hv', hx, hm, hn⟩ | ⟨b, off, cap', hv', _, hc, hm, _⟩
    · injection hv' with e1 e2 e3; subst e1 e3; subst hx; exact ⟨hm, hn, by simp⟩
    · injection hv' with e1 e2 e3; subst e1 e3; exact ⟨hm, by simp, hc⟩
  unfold sliced
  by_cases h0 : lo = hi
  · subst h0
    refine .inl ⟨_, cap - lo, by rw [Nat.sub_self], by apply List.drop_eq_nil_of_le; rw [List.length_take]; omega, by omega, fun hn => ?_⟩
    split at hn
    · have := hcm.2.1 hn; omega
    · have := hcm.2.1 (by simpa using hn); omega
  · obtain ⟨b, off, ha, hn, hx, hm, hbl, -, hcc⟩ := h.opened (by omega)
    subst ha
    rw [if_neg (by omega)]
    refine .inr ⟨b, off + lo * C.m, cap - lo, ?_, by omega, by omega, by omega, fun j u hu => ?_⟩
    · rw [hl, Option.map_some, Go.WideShapes.add_plain]
    · have hj : j < (hi - lo) * C.m := by
        have := (List.getElem?_eq_some_iff.1 hu).1
        rwa [fl_len, hl] at this
      have e : fl C xs = fl C (xs.take lo) ++ (fl C ((xs.take hi).drop lo) ++ fl C (xs.drop hi)) := by
        rw [← fl_app, ← fl_app]
        congr 1
        have e2 : xs.take lo = (xs.take hi).take lo := by rw [List.take_take, Nat.min_eq_left h1]
        rw [e2, ← List.append_assoc, List.take_append_drop, List.take_append_drop]
      have hlo : (fl C (xs.take lo)).length = lo * C.m := by rw [fl_len, List.length_take, Nat.min_eq_left (by omega)]
      have : (fl C xs)[lo * C.m + j]? = some u := by
        rw [e, List.getElem?_append_right (by omega), hlo, Nat.add_sub_cancel_left, List.getElem?_append_left (by rw [fl_len, hl]; exact hj)]
        exact hu
      rw [Nat.add_assoc]
      exact hcc _ _ this
theorem Row.headed {w : World} {a : Option Addr} {n cap hi : Nat} {xs : List α} (h : Row C w (.slice a n cap) xs) (h2 : hi ≤ xs.length) : Row C w (sliced a 0 hi cap C.m) (xs.take hi) := by
  have := h.mid (Nat.zero_le hi) h2
  simpa using this
theorem Row.tailed {w : World} {a : Option Addr} {n cap lo : Nat} {xs : List α} (h : Row C w (.slice a n cap) xs) (h1 : lo ≤ xs.length) : Row C w (sliced a lo xs.length cap C.m) (xs.drop lo) := by
  have := h.mid h1 (Nat.le_refl _)
  rwa [List.take_of_length_le (Nat.le_refl _)] at this

theorem Row.head {w : World} {a : Option Addr} {n cap hi : Nat} {xs : List α} (h : Row C w (.slice a n cap) xs) (h2 : hi ≤ xs.length) : Row C w (.slice a hi cap) (xs.take hi) := by
  have := h.headed h2
  unfold sliced at this
  have e : (if cap = 0 then a else a.map (·.add (0 * C.m))) = a := by
    split
    · rfl
    · rw [Nat.zero_mul]
      cases a with
      | none => rfl
      | some x => obtain ⟨b, o, s⟩ := x; simp [Addr.add]
  rw [e] at this
  simpa using this
theorem Row.tail {w : World} {a : Option Addr} {n cap lo : Nat} {xs : List α} (h : Row C w (.slice a n cap) xs) (h1 : lo ≤ xs.length) :
    (cap = lo → Row C w (.slice a (xs.length - lo) 0) (xs.drop lo)) ∧ (¬ cap = lo → Row C w (.slice (a.map fun x => x.add (lo * C.m)) (xs.length - lo) (cap - lo)) (xs.drop lo)) := by
  have := h.tailed h1
  unfold sliced at this
  refine ⟨fun hc => ?_, fun hc => ?_⟩
  · rw [if_pos hc, hc, Nat.sub_self] at this; exact this
  · rw [if_neg hc] at this; exact this

/-- append(out, src...): out the call's own, src whatever slice, nil too. -/
theorem wpList_append_row {P : Program} {w : World} {ops : Array Oper} {rest : List Oper} {o : Oper} {a : Act} {Q : Exit → Act → World → Prop} (hgd : o.guard = none) (s x : Operand) (t : TypeId)
    (ho : o.op = .call { callee := .builtin .append, args := #[s, x], argTypes := #[t, t] })
    (base : Nat) (e : TypeId) (i : TypeInfo) (z : Value) (bytes : Nat) (ht : P.underlying t = some (.slice e)) (hi : P.info? e = some i) (hz : i.zero = some z)
    (hsize : i.size = C.m) (hby : i.bytes = bytes) (hzs : z.cells.size = C.m)
    (v : Value) (n : Nat) (cs : List Value) (hs : a.eval s = v) (hown : w.ownsRow base e C.m v n cs)
    (u : Value) (ys : List α) (hx : a.eval x = u) (hu : Row C w u ys)
    (h63 : n + ys.length ≤ maxLen) (hbytes : (n + ys.length) * bytes ≤ 140737488355328) (hbase : base ≤ w.heap.size)
    (h : ∀ v' w', w'.ownsRow base e C.m v' (n + ys.length) (cs ++ fl C ys) → w.grownBy w' v.ownBlock → wpList P ops Q rest (a.put o.dst v') w') : wpList P ops Q (o :: rest) a w := by
  rcases hu with ⟨ad, cap, rfl, rfl, hm, hc0⟩ | ⟨b, off, cap, rfl, h0, h1, hm, hc⟩
  · cases ad with
    | none =>
      obtain rfl := hc0 rfl
      exact wpList_append_own_none hgd s x t ho base e i C.m ht hi v n cs hs hown hx (h v w (by simpa [fl_nil] using hown) (grown_refl _ _))
    | some ad =>
      exact wpList_append_own w hgd s x t ho base e i z C.m bytes ht hi hz hsize hby hzs C.pos v n cs hs hown ad 0 cap [] hx (by simp) (by intro j u hj; simp at hj) (by intro u hu; cases hu) h63 hbytes hbase (fun v' w' q1 q2 _ => h v' w' (by simpa [fl_nil] using q1) q2)
  · refine wpList_append_own w hgd s x t ho base e i z C.m bytes ht hi hz hsize hby hzs C.pos v n cs hs hown ⟨b, off, none⟩ ys.length cap (fl C ys) hx (fl_len C ys) ?_ (fl_ones C ys) h63 hbytes hbase (fun v' w' q1 q2 _ => h v' w' q1 q2)
    intro j u hj
    rw [Go.WideShapes.add_plain]
    exact hc j u hj
end
section
variable {P : Program} {ops : Array Oper} {C : World → Prop} {Q : Act → Prop} {a : Act} {o : Oper} {rest : List Oper}
/-- The class walk, closed in a structure: else each tactic that looks at its goal's head runs the region. -/
structure WQ (P : Program) (ops : Array Oper) (C : World → Prop) (Q : Act → Prop) (l : List Oper) (a : Act) : Prop where
  out : wpQuiet P ops C Q l a
theorem region_classw {id : Nat} {Q' : Exit → Act → World → Prop} {w : World} {l : List Oper} (hm : P.follows .mixedOrders = true) (hB : Region.lexB .any l.toArray = true) (hC : C w.drew)
    (h : WQ P l.toArray C (fun a' => ∀ w', C w' → Q' .normal a' w') l a) : (Code.region id l.toArray true).wp P Q' a w := region_class hm hB hC h.out
theorem w_skip {j : Nat} {want : Bool} (hg : o.guard = some (j, want)) (hy : yielded ops a.tmps j = some (!want)) (k : WQ P ops C Q rest (a.put o.dst undef)) : WQ P ops C Q (o :: rest) a :=
  ⟨q_skip (by unfold Region.wanted; rw [hg]; simp only [hy]; cases want <;> rfl) k.out⟩
theorem w_skipn {j : Nat} {want : Bool} (hg : o.guard = some (j, want)) (hy : yielded ops a.tmps j = none) (k : WQ P ops C Q rest (a.put o.dst undef)) : WQ P ops C Q (o :: rest) a :=
  ⟨q_skip (by unfold Region.wanted; rw [hg]; simp only [hy]; rfl) k.out⟩
theorem w_valg {j : Nat} {want : Bool} {v : Value} (hg : o.guard = some (j, want)) (hy : yielded ops a.tmps j = some want) (hv : ∀ w, C w → (execOp a.eval o).run P w = .ok (.value v) w) (k : WQ P ops C Q rest (a.put o.dst v)) : WQ P ops C Q (o :: rest) a :=
  ⟨q_val (by unfold Region.wanted; rw [hg]; simp only [hy]; cases want <;> rfl) hv k.out⟩
theorem w_val {v : Value} (hg : o.guard = none) (hv : ∀ w, C w → (execOp a.eval o).run P w = .ok (.value v) w) (k : WQ P ops C Q rest (a.put o.dst v)) : WQ P ops C Q (o :: rest) a :=
  ⟨q_val (by unfold Region.wanted; rw [hg]) hv k.out⟩
theorem w_callg {j : Nat} {want : Bool} {v : Value} {f : FuncId} {args : Array Value} (hg : o.guard = some (j, want)) (hy : yielded ops a.tmps j = some want) (hv : ∀ w, C w → (execOp a.eval o).run P w = .ok (.enter f args) w)
    (hc : ∀ w, C w → Calls P f args w fun e w' => e = .returned v ∧ C w') (k : WQ P ops C Q rest (a.put o.dst v)) : WQ P ops C Q (o :: rest) a :=
  ⟨q_call (by unfold Region.wanted; rw [hg]; simp only [hy]; cases want <;> rfl) hv hc k.out⟩
theorem w_call {v : Value} {f : FuncId} {args : Array Value} (hg : o.guard = none) (hv : ∀ w, C w → (execOp a.eval o).run P w = .ok (.enter f args) w)
    (hc : ∀ w, C w → Calls P f args w fun e w' => e = .returned v ∧ C w') (k : WQ P ops C Q rest (a.put o.dst v)) : WQ P ops C Q (o :: rest) a :=
  ⟨q_call (by unfold Region.wanted; rw [hg]) hv hc k.out⟩
theorem w_end (h : Q a) : WQ P ops C Q [] a := ⟨q_end h⟩
end

end Go.Proofs.YtohgopibimgjfaaGreat

/- A2: attributes as plain data -/
namespace Go.Proofs.YtohgopibimgjfaaGreat
open Go.RowKit
set_option linter.unusedVariables false

/-- An attribute: its key, and the value's kind, number, bits, text. -/
structure Att where
  key : Int
  k : Int
  n : Int
  f : Int
  s : ByteArray
deriving DecidableEq

@[reducible] def av (a : Att) : Value := .agg #[.int .i64 a.key, .int .u8 a.k, .int .i64 a.n, .int .u64 a.f, .string a.s]
@[reducible] def ac (a : Att) : List Value := [.int .i64 a.key, .int .u8 a.k, .int .i64 a.n, .int .u64 a.f, .string a.s]
@[reducible] def aca (a : Att) : Array Value := #[.int .i64 a.key, .int .u8 a.k, .int .i64 a.n, .int .u64 a.f, .string a.s]
@[reducible] def noAtt : Att := ⟨0, 0, 0, 0, ⟨#[]⟩⟩
instance : Inhabited Att := ⟨noAtt⟩
theorem ac_one (a : Att) : ∀ u ∈ ac a, u.oneCell' = true := by
  intro u hu
  simp at hu
  rcases hu with rfl | rfl | rfl | rfl | rfl <;> rfl
/-- How an attribute lies: five cells. -/
def attC : Cel Att := ⟨ac, 5, fun _ => rfl, ac_one, by decide⟩
/-- What an attribute's numbers are within. -/
structure AttW (a : Att) : Prop where
  key : (Lit.int .i64 a.key).wf = true
  k : (Lit.int .u8 a.k).wf = true
  n : (Lit.int .i64 a.n).wf = true
  f : (Lit.int .u64 a.f).wf = true
  s : a.s.size ≤ maxLen
theorem AttW.f0 {a : Att} (h : AttW a) : 0 ≤ a.f := by have := Go.bounds_u64 h.f; omega
theorem AttW.f1 {a : Att} (h : AttW a) : a.f < 18446744073709551616 := by have := Go.bounds_u64 h.f; omega

/-- Its five cells at a place; at a block's head. -/
@[reducible] def AAt (b o : Nat) (a : Att) (w : World) : Prop :=
  w.cell? ⟨b, o, none⟩ = some (.int .i64 a.key) ∧ w.cell? ⟨b, o + 1, none⟩ = some (.int .u8 a.k) ∧ w.cell? ⟨b, o + 2, none⟩ = some (.int .i64 a.n) ∧ w.cell? ⟨b, o + 3, none⟩ = some (.int .u64 a.f) ∧ w.cell? ⟨b, o + 4, none⟩ = some (.string a.s)
@[reducible] def ABox (b : Nat) (a : Att) (w : World) : Prop :=
  w.cell? ⟨b, 0, none⟩ = some (.int .i64 a.key) ∧ w.cell? ⟨b, 1, none⟩ = some (.int .u8 a.k) ∧ w.cell? ⟨b, 2, none⟩ = some (.int .i64 a.n) ∧ w.cell? ⟨b, 3, none⟩ = some (.int .u64 a.f) ∧ w.cell? ⟨b, 4, none⟩ = some (.string a.s)
theorem AAt.below {B b o : Nat} {a : Att} {w w' : World} (h : AAt b o a w) (hb : Below B w w') (hB : b < B) : AAt b o a w' := by
  obtain ⟨h0, h1, h2, h3, h4⟩ := h
  exact ⟨(hb.cell (p := ⟨b, _, none⟩) hB).trans h0, (hb.cell (p := ⟨b, _, none⟩) hB).trans h1, (hb.cell (p := ⟨b, _, none⟩) hB).trans h2, (hb.cell (p := ⟨b, _, none⟩) hB).trans h3, (hb.cell (p := ⟨b, _, none⟩) hB).trans h4⟩
theorem ABox.below {B b : Nat} {a : Att} {w w' : World} (h : ABox b a w) (hb : Below B w w') (hB : b < B) : ABox b a w' := by
  obtain ⟨h0, h1, h2, h3, h4⟩ := h
  exact ⟨(hb.cell (p := ⟨b, _, none⟩) hB).trans h0, (hb.cell (p := ⟨b, _, none⟩) hB).trans h1, (hb.cell (p := ⟨b, _, none⟩) hB).trans h2, (hb.cell (p := ⟨b, _, none⟩) hB).trans h3, (hb.cell (p := ⟨b, _, none⟩) hB).trans h4⟩
theorem ABox.box (a : Att) (w : World) (t : TypeId) : ABox w.heap.size a (w.alloc (.cells (aca a) t)) := by
  refine ⟨?_, ?_, ?_, ?_, ?_⟩ <;> (rw [cell_of_row _ w.heap.size _ _ t (0, 0) (heap_alloc_new w _)]; rfl)
theorem ABox.lt {b : Nat} {a : Att} {w : World} (h : ABox b a w) : b < w.heap.size := World.block_lt_of_cell? w _ h.1

/-- A slice of attributes that reads as xs. -/
@[reducible] def Arow (w : World) (v : Value) (xs : List Att) : Prop := Row attC w v xs
theorem Arow.opn {w : World} {a : Option Addr} {n cap : Nat} {xs : List Att} (h : Arow w (.slice a n cap) xs) (h0 : 0 < xs.length) :
    ∃ b off, a = some ⟨b, off, none⟩ ∧ n = xs.length ∧ xs.length ≤ cap ∧ cap ≤ maxLen ∧ b < w.heap.size ∧ (∀ j (hj : j < xs.length), AAt b (off + j * 5) xs[j] w) := by
  obtain ⟨b, off, ha, hn, hc, hm, hb, hat, -⟩ := Row.opened h h0
  refine ⟨b, off, ha, hn, hc, hm, hb, fun j hj => ⟨?_, ?_, ?_, ?_, ?_⟩⟩
  · exact hat j hj 0 _ rfl
  · exact hat j hj 1 _ rfl
  · exact hat j hj 2 _ rfl
  · exact hat j hj 3 _ rfl
  · exact hat j hj 4 _ rfl

def aeq (a b : Att) : Bool := (a.key == b.key) && ((a.k == b.k) && (a.n == b.n) && (a.f == b.f) && (a.s.toList == b.s.toList))
theorem aeq_iff (a b : Att) : aeq a b = true ↔ a = b := by
  obtain ⟨a1, a2, a3, a4, a5⟩ := a
  obtain ⟨b1, b2, b3, b4, b5⟩ := b
  have hs : a5.toList = b5.toList ↔ a5 = b5 := by
    rw [ByteArray.toList_eq, ByteArray.toList_eq]
    exact ⟨fun h => Go.WideShapes.bytes_inj h, fun h => by rw [h]⟩
  simp [aeq, hs, and_assoc]
theorem aeq_dec (a b : Att) : aeq a b = decide (a = b) := by
  rw [Bool.eq_iff_iff, aeq_iff]; simp

set_option maxRecDepth 100000 in
theorem att_in (a b : Att) (w : World) : (Op.equalIn 10000 61 (av a) (av b)).run Tryz.prog w = .ok (aeq a b) w := by
  obtain ⟨a1, a2, a3, a4, a5⟩ := a
  obtain ⟨b1, b2, b3, b4, b5⟩ := b
  have hS : Tryz.prog.underlying 61 = some (.struct (Tryz.prog.fieldsOf 61)) := by kernel_rfl
  have hp : Tryz.prog.stoodInHeld 61 = false := by kernel_rfl
  have u0 := Tryz.underlying3
  have ag0 := Tryz.isAgg3
  have ag5 := Tryz.isAgg59
  have z0 := Tryz.sizeOf3
  have z5 := Tryz.sizeOf59
  rw [show (10000 : Nat) = 9999 + 1 from rfl, run_equalIn_agg w 9999 61 _ _ hS hp]
  simp only [Program.fieldsOf, Tryz.underlying61]
  simp only [Op.eqFields, ne_eq]
  go_simp
  unfold aeq
  by_cases h1 : a1 = b1 <;> by_cases h2 : a2 = b2 <;> by_cases h3 : a3 = b3 <;> by_cases h4 : a4 = b4 <;> by_cases h5 : a5.toList = b5.toList <;> simp [h1, h2, h3, h4, h5]
theorem att_neq (a b : Att) (w : World) : (binOp .neq 61 (av a) (av b)).run Tryz.prog w = .ok (.bool (!aeq a b)) w := by
  rw [run_neq_struct, att_in]; rfl
end Go.Proofs.YtohgopibimgjfaaGreat

/- A3: sets held against one another; great; rising -/
namespace Go.Proofs.YtohgopibimgjfaaGreat
open Go.RowKit
set_option linter.unusedVariables false

theorem atake_snoc {xs : List Att} {k : Nat} (h : k < xs.length) : xs.take (k + 1) = xs.take k ++ [xs[k]] := by
  rw [List.take_succ_eq_append_getElem h]
theorem eq_step {xs ys : List Att} {k : Nat} (h1 : k < xs.length) (h2 : k < ys.length) (h : xs.take k = ys.take k) (he : xs[k] = ys[k]) : xs.take (k + 1) = ys.take (k + 1) := by
  rw [atake_snoc h1, atake_snoc h2, h, he]
theorem eq_end {xs ys : List Att} (hl : xs.length = ys.length) (h : xs.take xs.length = ys.take xs.length) : xs = ys := by
  rw [List.take_of_length_le (Nat.le_refl _), hl, List.take_of_length_le (Nat.le_refl _)] at h; exact h
theorem eq_bad {xs ys : List Att} {k : Nat} (h1 : k < xs.length) (h2 : k < ys.length) (he : ¬ xs[k] = ys[k]) : ¬ xs = ys := by
  intro h; subst h; exact he rfl
theorem dec_yes {p : Prop} [Decidable p] (h : p) : Ending.returned (.bool true) = .returned (.bool (decide p)) := by rw [decide_eq_true h]
theorem dec_no {p : Prop} [Decidable p] (h : ¬ p) : Ending.returned (.bool false) = .returned (.bool (decide p)) := by rw [decide_eq_false h]

set_option maxRecDepth 100000 in
theorem equal_any (v1 v2 : Value) (xs ys : List Att) (w : World) (h1 : Arow w v1 xs) (h2 : Arow w v2 ys) :
    Calls Tryz.prog 144 #[v1, v2] w fun e w' => e = .returned (.bool (decide (xs = ys))) ∧ ∃ q, w' = w.drewN q := by
  have hl1 := h1.len
  have hl2 := h2.len
  obtain ⟨a1, cap1, rfl⟩ := h1.shape
  obtain ⟨a2, cap2, rfl⟩ := h2.shape
  by_cases hl : xs.length = ys.length
  · by_cases h0 : 0 < xs.length
    · obtain ⟨b1, o1, rfl, -, -, -, -, hat1⟩ := Arow.opn h1 h0
      obtain ⟨b2, o2, rfl, -, -, -, -, hat2⟩ := Arow.opn h2 (by omega)
      clear h1 h2
      have H1 := Lib.hid hat1
      have H2 := Lib.hid hat2
      have HL := Lib.hid hl
      clear hat1 hat2
      rw [← hl]
      clear hl hl2
      go_enter Tryz.func144, Tryz.ntmps144
      go_wp2
      go_loopw [13] (fun i wr => ∃ k q : Nat, k ≤ xs.length ∧ i = .int .i64 k ∧ wr = w.drewN q ∧ Hid (xs.take k = ys.take k)) (fun i _ => xs.length - (intOf i).toNat)
      case atStart => exact ⟨0, 0, Nat.zero_le _, rfl, rfl, Lib.hid rfl⟩
      case round =>
        obtain ⟨k, q, hk, rfl, rfl, HP⟩ := hrel
        by_cases hlt : k < xs.length
        · have hlt2 : k < ys.length := by rw [← HL.out]; exact hlt
          obtain ⟨c0, c1, c2, c3, c4⟩ := H1.out k hlt
          obtain ⟨d0, d1, d2, d3, d4⟩ := H2.out k hlt2
          have hS := fun h => eq_step hlt hlt2 HP.out h
          have hE := fun h => eq_bad hlt hlt2 h
          have hD : aeq xs[k] ys[k] = decide (xs[k] = ys[k]) := aeq_dec _ _
          have hq := fun w => att_neq xs[k] ys[k] w
          generalize xs[k] = x at *
          generalize ys[k] = y at *
          by_cases hxy : x = y
          · have HS := Lib.hid (hS hxy)
            have e1 : aeq x y = true := by rw [hD]; simp [hxy]
            rw [e1] at hq
            obtain ⟨x1, x2, x3, x4, x5⟩ := x
            obtain ⟨y1, y2, y3, y4, y5⟩ := y
            clear hS hE hD e1 hxy
            simp only at c0 c1 c2 c3 c4 d0 d1 d2 d3 d4 hq
            go_wp2
            go_quiet (fail)
            go_wp2
            go_roundw
            case rel => exact ⟨k + 1, q + nq, by omega, by go_num, by simp, HS⟩
            case measure => simp [intOf]; omega
          · have HS := Lib.hid (hE hxy)
            have e1 : aeq x y = false := by rw [hD]; simp [hxy]
            rw [e1] at hq
            obtain ⟨x1, x2, x3, x4, x5⟩ := x
            obtain ⟨y1, y2, y3, y4, y5⟩ := y
            clear hS hE hD e1 hxy
            simp only at c0 c1 c2 c3 c4 d0 d1 d2 d3 d4 hq
            go_wp2
            go_quiet (fail)
            go_wp2
            go_ret
            exact ⟨dec_no HS.out, q + nq, by simp⟩
        · obtain rfl : k = xs.length := by omega
          have HE := Lib.hid (eq_end HL.out HP.out)
          clear HP
          go_wp2
          go_ret
          exact ⟨dec_yes HE.out, _, rfl⟩
    · obtain rfl : xs = [] := List.eq_nil_of_length_eq_zero (by omega)
      obtain rfl : ys = [] := List.eq_nil_of_length_eq_zero (by simpa using hl.symm)
      clear h1 h2 h0 hl hl1 hl2
      go_enter Tryz.func144, Tryz.ntmps144
      go_wp2
      refine wp_loop_rounds 1 ?_
      rw [rounds_succ]
      go_wp2
      go_ret
      exact ⟨rfl, 0, rfl⟩
  · have HN := Lib.hid (show ¬ xs = ys from fun h => hl (by rw [h]))
    have e1 : ((xs.length : Int) != (ys.length : Int)) = true := by simp; omega
    clear h1 h2
    go_enter Tryz.func144, Tryz.ntmps144
    go_wp2
    go_ret
    exact ⟨dec_no HN.out, 0, rfl⟩

theorem same_any5 (v1 v2 : Value) (xs ys : List Att) (w : World) (h1 : Arow w v1 xs) (h2 : Arow w v2 ys) :
    Calls Tryz.prog 135 #[v1, v2] w fun e w' => e = .returned (.bool (decide (xs = ys))) ∧ Below w.heap.size w w' := by
  have HE := Lib.hid (equal_any v1 v2 xs ys w h1 h2)
  clear h1 h2
  go_enter Tryz.func135, Tryz.ntmps135
  go_wp2_with (go_at_call 144; ((with_reducible refine HE.out.mono ?_); rintro e w1 ⟨rfl, q, rfl⟩))
  go_ret
  exact ⟨rfl, blw_drewN (Below.refl _ _) q⟩
end Go.Proofs.YtohgopibimgjfaaGreat

/- A4: the reference's Same, great, Rising -/
namespace Go.Proofs.YtohgopibimgjfaaGreat
open Go.RowKit
set_option linter.unusedVariables false

set_option maxRecDepth 100000 in
theorem rsame_any5 (v1 v2 : Value) (xs ys : List Att) (w : World) (h1 : Arow w v1 xs) (h2 : Arow w v2 ys) :
    Calls Tryz.prog 26 #[v1, v2] w fun e w' => e = .returned (.bool (decide (xs = ys))) ∧ ∃ q, w' = w.drewN q := by
  have hl1 := h1.len
  have hl2 := h2.len
  obtain ⟨a1, cap1, rfl⟩ := h1.shape
  obtain ⟨a2, cap2, rfl⟩ := h2.shape
  by_cases hl : xs.length = ys.length
  · by_cases h0 : 0 < xs.length
    · obtain ⟨b1, o1, rfl, -, -, -, -, hat1⟩ := Arow.opn h1 h0
      obtain ⟨b2, o2, rfl, -, -, -, -, hat2⟩ := Arow.opn h2 (by omega)
      clear h1 h2
      have H1 := Lib.hid hat1
      have H2 := Lib.hid hat2
      have HL := Lib.hid hl
      clear hat1 hat2
      rw [← hl]
      clear hl hl2
      go_enter Tryz.func26, Tryz.ntmps26
      go_wp2
      go_loopw [5] (fun i wr => ∃ k q : Nat, k ≤ xs.length ∧ i = .int .i64 k ∧ wr = w.drewN q ∧ Hid (xs.take k = ys.take k)) (fun i _ => xs.length - (intOf i).toNat)
      case atStart => exact ⟨0, 0, Nat.zero_le _, rfl, rfl, Lib.hid rfl⟩
      case round =>
        obtain ⟨k, q, hk, rfl, rfl, HP⟩ := hrel
        by_cases hlt : k < xs.length
        · have hlt2 : k < ys.length := by rw [← HL.out]; exact hlt
          obtain ⟨c0, c1, c2, c3, c4⟩ := H1.out k hlt
          obtain ⟨d0, d1, d2, d3, d4⟩ := H2.out k hlt2
          have hS := fun h => eq_step hlt hlt2 HP.out h
          have hE := fun h => eq_bad hlt hlt2 h
          have hD : aeq xs[k] ys[k] = decide (xs[k] = ys[k]) := aeq_dec _ _
          have hq := fun w => att_neq xs[k] ys[k] w
          generalize xs[k] = x at *
          generalize ys[k] = y at *
          by_cases hxy : x = y
          · have HS := Lib.hid (hS hxy)
            have e1 : aeq x y = true := by rw [hD]; simp [hxy]
            rw [e1] at hq
            obtain ⟨x1, x2, x3, x4, x5⟩ := x
            obtain ⟨y1, y2, y3, y4, y5⟩ := y
            clear hS hE hD e1 hxy
            simp only at c0 c1 c2 c3 c4 d0 d1 d2 d3 d4 hq
            go_wp2
            go_quiet (fail)
            go_wp2
            go_roundw
            case rel => exact ⟨k + 1, q + nq, by omega, by go_num, by simp, HS⟩
            case measure => simp [intOf]; omega
          · have HS := Lib.hid (hE hxy)
            have e1 : aeq x y = false := by rw [hD]; simp [hxy]
            rw [e1] at hq
            obtain ⟨x1, x2, x3, x4, x5⟩ := x
            obtain ⟨y1, y2, y3, y4, y5⟩ := y
            clear hS hE hD e1 hxy
            simp only at c0 c1 c2 c3 c4 d0 d1 d2 d3 d4 hq
            go_wp2
            go_quiet (fail)
            go_wp2
            go_ret
            exact ⟨dec_no HS.out, q + nq, by simp⟩
        · obtain rfl : k = xs.length := by omega
          have HE := Lib.hid (eq_end HL.out HP.out)
          clear HP
          go_wp2
          go_ret
          exact ⟨dec_yes HE.out, _, rfl⟩
    · obtain rfl : xs = [] := List.eq_nil_of_length_eq_zero (by omega)
      obtain rfl : ys = [] := List.eq_nil_of_length_eq_zero (by simpa using hl.symm)
      clear h1 h2 h0 hl hl1 hl2
      go_enter Tryz.func26, Tryz.ntmps26
      go_wp2
      refine wp_loop_rounds 1 ?_
      rw [rounds_succ]
      go_wp2
      go_ret
      exact ⟨rfl, 0, rfl⟩
  · have HN := Lib.hid (show ¬ xs = ys from fun h => hl (by rw [h]))
    have e1 : ((xs.length : Int) != (ys.length : Int)) = true := by simp; omega
    clear h1 h2
    go_enter Tryz.func26, Tryz.ntmps26
    go_wp2
    go_ret
    exact ⟨dec_no HN.out, 0, rfl⟩


/-- Keys rise. -/
def Rise (xs : List Att) : Prop := xs.Pairwise (fun a b => a.key < b.key)
instance (xs : List Att) : Decidable (Rise xs) := by unfold Rise; infer_instance
theorem rise_nil : Rise [] := List.Pairwise.nil
theorem rise_step {xs : List Att} {k : Nat} (h : k + 1 < xs.length) (hr : Rise (xs.take (k + 1))) (hl : xs[k].key < xs[k + 1].key) : Rise (xs.take (k + 1 + 1)) := by
  rw [atake_snoc h]
  refine List.pairwise_append.2 ⟨hr, by simp, fun a ha b hb => ?_⟩
  simp at hb
  subst hb
  rw [atake_snoc (by omega : k < xs.length)] at ha hr
  rcases List.mem_append.1 ha with ha | ha
  · have := (List.pairwise_append.1 hr).2.2 a ha xs[k] (by simp)
    omega
  · simp at ha; subst ha; exact hl
theorem rise_bad {xs : List Att} {k : Nat} (h : k + 1 < xs.length) (hl : ¬ xs[k].key < xs[k + 1].key) : ¬ Rise xs := fun hr =>
  hl (List.pairwise_iff_getElem.1 hr k (k + 1) (by omega) h (by omega))
theorem rise_end {xs : List Att} (hr : Rise (xs.take xs.length)) : Rise xs := by rwa [List.take_of_length_le (Nat.le_refl _)] at hr
theorem rise_one {xs : List Att} : Rise (xs.take (0 + 1)) := by
  cases xs with
  | nil => exact rise_nil
  | cons x r => simp [Rise]

set_option maxRecDepth 100000 in
theorem rising_any5 (v : Value) (xs : List Att) (w : World) (h1 : Arow w v xs) :
    Calls Tryz.prog 92 #[v] w fun e w' => e = .returned (.bool (decide (Rise xs))) ∧ ∃ q, w' = w.drewN q := by
  have hl1 := h1.len
  obtain ⟨a1, cap1, rfl⟩ := h1.shape
  by_cases h0 : 0 < xs.length
  · obtain ⟨b1, o1, rfl, -, -, -, -, hat1⟩ := Arow.opn h1 h0
    clear h1
    have H1 := Lib.hid hat1
    clear hat1
    go_enter Tryz.func92, Tryz.ntmps92
    go_wp2
    go_loopw [3] (fun i wr => ∃ k q : Nat, k + 1 ≤ xs.length ∧ i = .int .i64 ((k : Int) + 1) ∧ wr = w.drewN q ∧ Hid (Rise (xs.take (k + 1)))) (fun i _ => xs.length - (intOf i).toNat)
    case atStart => exact ⟨0, 0, h0, rfl, rfl, Lib.hid rise_one⟩
    case round =>
      obtain ⟨k, q, hk, rfl, rfl, HP⟩ := hrel
      by_cases hlt : k + 1 < xs.length
      · obtain ⟨c0, -, -, -, -⟩ := H1.out k (by omega)
        obtain ⟨d0, -, -, -, -⟩ := H1.out (k + 1) hlt
        have hS := fun h => rise_step hlt HP.out h
        have hB := fun h => rise_bad hlt h
        generalize xs[k].key = x at *
        generalize xs[k + 1].key = y at *
        by_cases hxy : x < y
        · have HS := Lib.hid (hS hxy)
          have e1 : decide (y ≤ x) = false := by rw [decide_eq_false_iff_not]; omega
          clear hS hB hxy
          go_wp2
          go_quiet (fail)
          go_wp2
          go_roundw
          case rel => exact ⟨k + 1, q + nq, by omega, by go_num, by simp, HS⟩
          case measure => simp [intOf]; omega
        · have HS := Lib.hid (hB hxy)
          have e1 : decide (y ≤ x) = true := by rw [decide_eq_true_iff]; omega
          clear hS hB hxy
          go_wp2
          go_quiet (fail)
          go_wp2
          go_ret
          exact ⟨dec_no HS.out, q + nq, by simp⟩
      · have hkk : xs.length = k + 1 := by omega
        have HE := Lib.hid (rise_end (by rw [hkk]; exact HP.out))
        clear HP
        go_wp2
        go_ret
        exact ⟨dec_yes HE.out, _, rfl⟩
  · obtain rfl : xs = [] := List.eq_nil_of_length_eq_zero (by omega)
    clear h1 h0 hl1
    go_enter Tryz.func92, Tryz.ntmps92
    go_wp2
    refine wp_loop_rounds 1 ?_
    rw [rounds_succ]
    go_wp2
    go_ret
    exact ⟨rfl, 0, rfl⟩
end Go.Proofs.YtohgopibimgjfaaGreat

/- A6: where a key stands -/
namespace Go.Proofs.YtohgopibimgjfaaGreat
open Go.RowKit
set_option linter.unusedVariables false

end Go.Proofs.YtohgopibimgjfaaGreat

/- A8: Get; Grow, Concat, Clone -/
namespace Go.Proofs.YtohgopibimgjfaaGreat
open Go.RowKit
set_option linter.unusedVariables false

end Go.Proofs.YtohgopibimgjfaaGreat

/- A9: Concat, Clone, Copy -/
namespace Go.Proofs.YtohgopibimgjfaaGreat
open Go.RowKit
set_option linter.unusedVariables false

end Go.Proofs.YtohgopibimgjfaaGreat

/- A10: With, Without, Copy -/
namespace Go.Proofs.YtohgopibimgjfaaGreat
open Go.RowKit
set_option linter.unusedVariables false

/-- A set of the call's own that reads as ys. -/
def Own5 (w0 w : World) (u : Value) (ys : List Att) : Prop := w.ownsRow w0.heap.size 61 5 u ys.length (fl attC ys)
theorem Own5.row {w0 w : World} {u : Value} {ys : List Att} (h : Own5 w0 w u ys) : Arow w u ys := (Row.of_owns (C := attC) h).1

end Go.Proofs.YtohgopibimgjfaaGreat

/- A11: Clone, Copy -/
namespace Go.Proofs.YtohgopibimgjfaaGreat
open Go.RowKit
set_option linter.unusedVariables false

theorem own5_nil (w0 w : World) : Own5 w0 w (.slice none 0 0) [] := ⟨rfl, .inl ⟨rfl, rfl⟩⟩

theorem owns_none (w : World) (e : TypeId) (m : Nat) : (w.alloc (.cells #[] e)).ownsRow w.heap.size e m (.slice (some ⟨w.heap.size, 0, none⟩) 0 0) 0 [] :=
  ⟨by simp, .inr ⟨w.heap.size, 0, #[], rfl, Nat.le_refl _, heap_alloc_new w _, Nat.le_refl _, by simp, by simp, by simp⟩⟩
theorem row_new0 (w : World) (a : Att) (t : TypeId) : Arow (w.alloc (.cells (aca a) t)) (.slice (some ⟨w.heap.size, 0, none⟩) 1 1) [a] := Row.built (C := attC) w t [a] (by simp [maxLen])
theorem row_new1 (w : World) (o : Obj) (a : Att) (t : TypeId) : Arow ((w.alloc o).alloc (.cells (aca a) t)) (.slice (some ⟨w.heap.size + 1, 0, none⟩) 1 1) [a] := by
  have h := row_new0 (w.alloc o) a t
  simp only [World.size_alloc] at h
  exact h
theorem nil_eql (a : Option Addr) (l c : Nat) (w : World) : (binOp .eql 53 (.slice a l c) (.slice none 0 0)).run Tryz.prog w = .ok (.bool a.isNone) w := by
  simp only [binOp, Sem.run_bind, run_equal_slice_nil w 53 61 a l c Tryz.underlying53, Result.andThen_ok, Sem.run_pure]

end Go.Proofs.YtohgopibimgjfaaGreat

/- A13: the reference's Get, Without, Part -/
namespace Go.Proofs.YtohgopibimgjfaaGreat
open Go.RowKit
set_option linter.unusedVariables false

/-- A row that grows by one, or stays: what the loops of this layer keep. -/
def Grows (w : World) (ls : List Att) (v : Value) (wr : World) : Prop := Own5 w wr v ls ∧ Below w.heap.size w wr
theorem grows_stay {w wr w2 : World} {ls : List Att} {v : Value} (h : Grows w ls v wr) (hb : Below wr.heap.size wr w2) : Grows w ls v w2 := ⟨owns_below h.1 hb, below_add h.2 hb h.2.size⟩
theorem grows_more {w wr w2 w3 : World} {ls : List Att} {x : Att} {v v3 : Value} (h : Grows w ls v wr) (hb : Below wr.heap.size wr w2)
    (ho : w3.ownsRow w.heap.size 61 5 v3 (ls.length + 1) (fl attC ls ++ fl attC [x])) (hg : w2.grownBy w3 v.ownBlock) : Grows w (ls ++ [x]) v3 w3 := by
  obtain ⟨h1, h2⟩ := h
  refine ⟨?_, (below_add h2 hb h2.size).grown hg (below_add h2 hb h2.size).size (fun j hj => own_base h1 hj)⟩
  unfold Own5
  rw [fl_app, List.length_append]
  exact ho

end Go.Proofs.YtohgopibimgjfaaGreat

/- A15: wellFormed -/
namespace Go.Proofs.YtohgopibimgjfaaGreat
open Go.RowKit
set_option linter.unusedVariables false

def okV (xs : List Att) : Bool := xs.all fun a => vmay a.k a.n a.f a.s
def okF5 (ks : List Key) (xs : List Att) : Bool := xs.all fun a => fitsB ks a.key a.k a.n a.f a.s
/-- May a set be, but for the schema; what May answers. -/
def wf5 (xs : List Att) : Bool := decide (Rise xs) && decide (xs.length ≤ 64) && okV xs
def may5 (ks : List Key) (xs : List Att) : Int := if wf5 xs then (if okF5 ks xs then 0 else 4) else 3
theorem okV_step {xs : List Att} {k : Nat} (h : k < xs.length) (hp : okV (xs.take k) = true) (hx : vmay xs[k].k xs[k].n xs[k].f xs[k].s = true) : okV (xs.take (k + 1)) = true := by
  unfold okV at *; rw [atake_snoc h, List.all_append, hp]; simpa using hx
theorem okV_bad {xs : List Att} {k : Nat} (h : k < xs.length) (hx : vmay xs[k].k xs[k].n xs[k].f xs[k].s = false) : okV xs = false := by
  unfold okV; rw [List.all_eq_false]; exact ⟨_, List.getElem_mem h, by rw [hx]; exact Bool.false_ne_true⟩
theorem okV_end {xs : List Att} (hp : okV (xs.take xs.length) = true) : okV xs = true := by rwa [List.take_of_length_le (Nat.le_refl _)] at hp
theorem okF_step {ks : List Key} {xs : List Att} {k : Nat} (h : k < xs.length) (hp : okF5 ks (xs.take k) = true) (hx : fitsB ks xs[k].key xs[k].k xs[k].n xs[k].f xs[k].s = true) : okF5 ks (xs.take (k + 1)) = true := by
  unfold okF5 at *; rw [atake_snoc h, List.all_append, hp]; simpa using hx
theorem okF_bad {ks : List Key} {xs : List Att} {k : Nat} (h : k < xs.length) (hx : fitsB ks xs[k].key xs[k].k xs[k].n xs[k].f xs[k].s = false) : okF5 ks xs = false := by
  unfold okF5; rw [List.all_eq_false]; exact ⟨_, List.getElem_mem h, by rw [hx]; exact Bool.false_ne_true⟩
theorem okF_end {ks : List Key} {xs : List Att} (hp : okF5 ks (xs.take xs.length) = true) : okF5 ks xs = true := by rwa [List.take_of_length_le (Nat.le_refl _)] at hp
theorem wf_badV {xs : List Att} (h : okV xs = false) : wf5 xs = false := by unfold wf5; rw [h, Bool.and_false]
theorem wf_badR {xs : List Att} (h : ¬ Rise xs) : wf5 xs = false := by unfold wf5; rw [decide_eq_false h]; rfl
theorem wf_badL {xs : List Att} (h : 64 < xs.length) : wf5 xs = false := by unfold wf5; rw [show decide (xs.length ≤ 64) = false by rw [decide_eq_false_iff_not]; omega]; simp
theorem wf_good {xs : List Att} (h1 : Rise xs) (h2 : xs.length ≤ 64) (h3 : okV xs = true) : wf5 xs = true := by unfold wf5; rw [decide_eq_true h1, decide_eq_true h2, h3]; rfl
theorem may_3 {ks : List Key} {xs : List Att} (h : wf5 xs = false) : may5 ks xs = 3 := by unfold may5; rw [h]; rfl
theorem may_4 {ks : List Key} {xs : List Att} (h : wf5 xs = true) (hf : okF5 ks xs = false) : may5 ks xs = 4 := by unfold may5; rw [h, hf]; rfl
theorem may_0 {ks : List Key} {xs : List Att} (h : wf5 xs = true) (hf : okF5 ks xs = true) : may5 ks xs = 0 := by unfold may5; rw [h, hf]; rfl
theorem rise_zero {xs : List Att} : Rise (xs.take 0) := by simp [Rise]

/-- The worlds of the round's test. -/
def WfC (B b o : Nat) (x y : Att) (two : Bool) (W W' : World) : Prop := ABox B x W' ∧ (two = true → AAt b o y W') ∧ Below W.heap.size W W'
theorem WfC.start {B b o : Nat} {x y : Att} {W : World} (h : ABox B x W) : WfC B b o x y false W W := ⟨h, fun h => absurd h Bool.false_ne_true, Below.refl _ _⟩
theorem WfC.start2 {B b o : Nat} {x y : Att} {W : World} (h : ABox B x W) (h2 : AAt b o y W) : WfC B b o x y true W W := ⟨h, fun _ => h2, Below.refl _ _⟩
theorem WfC.below {B b o : Nat} {x y : Att} {two : Bool} {W w w' : World} (h : WfC B b o x y two W w) (hb : Below w.heap.size w w') : WfC B b o x y two W w' :=
  ⟨h.1.below hb h.1.lt, fun ht => (h.2.1 ht).below hb (World.block_lt_of_cell? _ _ (h.2.1 ht).1), below_add h.2.2 hb h.2.2.size⟩

set_option maxRecDepth 100000 in
set_option maxHeartbeats 600000 in
theorem wf_any (v : Value) (xs : List Att) (w : World) (hv : Arow w v xs) (hW : ∀ a ∈ xs, AttW a) :
    Calls Tryz.prog 119 #[v] w fun e w' => e = .returned (.bool (wf5 xs)) ∧ Below w.heap.size w w' := by
  have hl := hv.len
  obtain ⟨a1, cap1, rfl⟩ := hv.shape
  by_cases hlong : 64 < xs.length
  · have HN := Lib.hid (wf_badL hlong)
    have d1 : decide ((64 : Int) < (xs.length : Int)) = true := by rw [decide_eq_true_iff]; omega
    clear hv hW hlong
    go_enter Tryz.func119, Tryz.ntmps119
    go_wp2
    go_ret
    exact ⟨by rw [HN.out]; rfl, Below.refl _ _⟩
  have d1 : decide ((64 : Int) < (xs.length : Int)) = false := by rw [decide_eq_false_iff_not]; omega
  by_cases h0 : 0 < xs.length
  · obtain ⟨b1, o1, rfl, -, -, -, hbl, hat⟩ := Arow.opn hv h0
    have HAT := Lib.hid hat
    have HWF := Lib.hid hW
    have HLG := Lib.hid (show xs.length ≤ 64 by omega)
    clear hv hat hW hlong
    go_enter Tryz.func119, Tryz.ntmps119
    go_wp2
    go_loopw [10] (fun s10 wr => ∃ k : Nat, k ≤ xs.length ∧ s10 = .int .i64 k ∧ Hid (Rise (xs.take k) ∧ okV (xs.take k) = true) ∧ Below w.heap.size w wr) (fun s10 _ => xs.length - (intOf s10).toNat)
    case atStart => exact ⟨0, Nat.zero_le _, rfl, Lib.hid ⟨rise_zero, rfl⟩, Below.refl _ _⟩
    case round =>
      obtain ⟨k, hk, rfl, HP, hb⟩ := hrel
      by_cases hlt : k < xs.length
      · obtain ⟨c0, c1, c2, c3, c4⟩ := (HAT.out k hlt).below hb hbl
        have hsz := hb.size
        have hw := HWF.out _ (List.getElem_mem hlt)
        have HM := Lib.hid (fun w => vmay_any xs[k].k xs[k].n xs[k].f xs[k].s w hw.f0 hw.f1)
        have hVS := fun h => okV_step hlt HP.out.2 h
        have hVB := fun h => wf_badV (okV_bad hlt h)
        clear hw
        cases k with
        | zero =>
          have hR1 : Rise (xs.take (0 + 1)) := rise_one
          have HR1 := Lib.hid hR1
          clear hR1
          generalize xs[0] = x at *
          obtain ⟨x1, x2, x3, x4, x5⟩ := x
          simp only at c0 c1 c2 c3 c4 HM hVS hVB
          generalize vmay x2 x3 x4 x5 = m at *
          have hbx := ABox.box ⟨x1, x2, x3, x4, x5⟩ wr 61
          simp only [Nat.zero_mul, Nat.add_zero] at c0 c1 c2 c3 c4
          go_wp2_with fail
          have hC0 : WfC wr.heap.size b1 o1 ⟨x1, x2, x3, x4, x5⟩ ⟨x1, x2, x3, x4, x5⟩ false (wr.alloc (.cells (aca ⟨x1, x2, x3, x4, x5⟩) 61)) (wr.alloc (.cells (aca ⟨x1, x2, x3, x4, x5⟩) 61)) := WfC.start hbx
          have KM := Lib.hid (fun w9 (hS : WfC wr.heap.size b1 o1 ⟨x1, x2, x3, x4, x5⟩ ⟨x1, x2, x3, x4, x5⟩ false (wr.alloc (.cells (aca ⟨x1, x2, x3, x4, x5⟩) 61)) w9) => (HM.out w9).mono fun e w' (h : _ ∧ _) => (⟨h.1, hS.below h.2⟩ : _ ∧ WfC wr.heap.size b1 o1 ⟨x1, x2, x3, x4, x5⟩ ⟨x1, x2, x3, x4, x5⟩ false (wr.alloc (.cells (aca ⟨x1, x2, x3, x4, x5⟩) 61)) w'))
          have HB := Lib.hid (hb.alloc hb.size (.cells (aca ⟨x1, x2, x3, x4, x5⟩) 61))
          clear hbx c0 c1 c2 c3 c4 HM hb
          refine region_classw (C := WfC wr.heap.size b1 o1 ⟨x1, x2, x3, x4, x5⟩ ⟨x1, x2, x3, x4, x5⟩ false (wr.alloc (.cells (aca ⟨x1, x2, x3, x4, x5⟩) 61))) (by kernel_rfl) (by kernel_rfl) (hC0.below (Below.refl _ _).drew) ?_
          repeat (first
            | (refine w_skip (by rfl) (by rfl) ?_
               simp only [Act.put, List.setIfInBounds_toArray, List.set_cons_zero, List.set_cons_succ])
            | (first
                 | refine w_val (v := ?_) (by rfl) (fun w9 hS => ?_) ?_
                 | refine w_valg (v := ?_) (by rfl) (by rfl) (fun w9 hS => ?_) ?_
               rotate_left
               · obtain ⟨⟨g0, g1, g2, g3, g4⟩, -, -⟩ := hS
                 go_simp
                 try with_reducible rfl
               simp only [Act.put, List.setIfInBounds_toArray, List.set_cons_zero, List.set_cons_succ])
            | (first
                 | refine w_call (by rfl) (fun w9 hS => ?_) KM.out ?_
                 | refine w_callg (by rfl) (by rfl) (fun w9 hS => ?_) KM.out ?_
               · obtain ⟨⟨g0, g1, g2, g3, g4⟩, -, -⟩ := hS
                 go_simp
               simp only [Act.put, List.setIfInBounds_toArray, List.set_cons_zero, List.set_cons_succ]))
          refine w_end ?_
          intro w5 T5
          cases m
          · have HVB := Lib.hid (hVB rfl)
            clear hVS hVB
            go_wp2_with fail
            go_ret
            exact ⟨by rw [HVB.out]; rfl, below_add HB.out T5.2.2 HB.out.size⟩
          · have HVS := Lib.hid (hVS rfl)
            have HT := Lib.hid T5.2.2
            clear hVS hVB
            go_wp2_with fail
            go_roundw
            case rel => exact ⟨0 + 1, by omega, by go_num, Lib.hid ⟨HR1.out, HVS.out⟩, below_add HB.out HT.out HB.out.size⟩
            case measure => simp [intOf]; omega
        | succ j =>
          have hjl : j < xs.length := by omega
          obtain ⟨p0, p1, p2, p3, p4⟩ := (HAT.out j hjl).below hb hbl
          have hRS := fun h => rise_step hlt HP.out.1 h
          have hRB := fun h => wf_badR (rise_bad hlt h)
          have hj1 : ((j + 1 : Nat) : Int) = (j : Int) + 1 := by omega
          have hwr : IntKind.i64.wrap (j : Int) = (j : Int) := by have := HLG.out; rw [IntKind.wrap_i64]; omega
          rw [hj1]
          generalize xs[j + 1] = x at *
          generalize xs[j] = y at *
          obtain ⟨x1, x2, x3, x4, x5⟩ := x
          obtain ⟨y1, y2, y3, y4, y5⟩ := y
          simp only at c0 c1 c2 c3 c4 p0 p1 p2 p3 p4 HM hVS hVB hRS hRB
          generalize vmay x2 x3 x4 x5 = m at *
          have hbx := ABox.box ⟨x1, x2, x3, x4, x5⟩ wr 61
          have HC0 := Lib.hid (WfC.start2 (x := ⟨x1, x2, x3, x4, x5⟩) (y := ⟨y1, y2, y3, y4, y5⟩) hbx (AAt.below (a := ⟨y1, y2, y3, y4, y5⟩) ⟨p0, p1, p2, p3, p4⟩ ((Below.refl _ _).alloc (Nat.le_refl _) (.cells (aca ⟨x1, x2, x3, x4, x5⟩) 61)) (by omega)))
          have KM := Lib.hid (fun w9 (hS : WfC wr.heap.size b1 (o1 + j * 5) ⟨x1, x2, x3, x4, x5⟩ ⟨y1, y2, y3, y4, y5⟩ true (wr.alloc (.cells (aca ⟨x1, x2, x3, x4, x5⟩) 61)) w9) => (HM.out w9).mono fun e w' (h : _ ∧ _) => (⟨h.1, hS.below h.2⟩ : _ ∧ WfC wr.heap.size b1 (o1 + j * 5) ⟨x1, x2, x3, x4, x5⟩ ⟨y1, y2, y3, y4, y5⟩ true (wr.alloc (.cells (aca ⟨x1, x2, x3, x4, x5⟩) 61)) w'))
          have HB := Lib.hid (hb.alloc hb.size (.cells (aca ⟨x1, x2, x3, x4, x5⟩) 61))
          go_wp2_with fail
          clear hbx c0 c1 c2 c3 c4 p0 p1 p2 p3 p4 HM hb
          by_cases hle : x1 ≤ y1
          · have e1 : decide (x1 ≤ y1) = true := by simpa using hle
            have HVB := Lib.hid (hRB (by omega))
            clear hVS hVB hRS hRB hle
            refine region_classw (C := WfC wr.heap.size b1 (o1 + j * 5) ⟨x1, x2, x3, x4, x5⟩ ⟨y1, y2, y3, y4, y5⟩ true (wr.alloc (.cells (aca ⟨x1, x2, x3, x4, x5⟩) 61))) (by kernel_rfl) (by kernel_rfl) (HC0.out.below (Below.refl _ _).drew) ?_
            repeat (first
              | (refine w_skip (by rfl) (by rfl) ?_
                 simp only [Act.put, List.setIfInBounds_toArray, List.set_cons_zero, List.set_cons_succ])
              | (first
                   | refine w_val (v := ?_) (by rfl) (fun w9 hS => ?_) ?_
                   | refine w_valg (v := ?_) (by rfl) (by rfl) (fun w9 hS => ?_) ?_
                 rotate_left
                 · obtain ⟨⟨g0, g1, g2, g3, g4⟩, hy, -⟩ := hS
                   obtain ⟨f0, f1, f2, f3, f4⟩ := hy rfl
                   go_simp
                   try with_reducible rfl
                 simp only [Act.put, List.setIfInBounds_toArray, List.set_cons_zero, List.set_cons_succ]))
            refine w_end ?_
            intro w5 T5
            go_wp2_with fail
            go_ret
            exact ⟨by rw [HVB.out]; rfl, below_add HB.out T5.2.2 HB.out.size⟩
          · have e1 : decide (x1 ≤ y1) = false := by simpa using hle
            have HRS := Lib.hid (hRS (by omega))
            clear hRS hRB hle
            refine region_classw (C := WfC wr.heap.size b1 (o1 + j * 5) ⟨x1, x2, x3, x4, x5⟩ ⟨y1, y2, y3, y4, y5⟩ true (wr.alloc (.cells (aca ⟨x1, x2, x3, x4, x5⟩) 61))) (by kernel_rfl) (by kernel_rfl) (HC0.out.below (Below.refl _ _).drew) ?_
            repeat (first
              | (refine w_skip (by rfl) (by rfl) ?_
                 simp only [Act.put, List.setIfInBounds_toArray, List.set_cons_zero, List.set_cons_succ])
              | (first
                   | refine w_val (v := ?_) (by rfl) (fun w9 hS => ?_) ?_
                   | refine w_valg (v := ?_) (by rfl) (by rfl) (fun w9 hS => ?_) ?_
                 rotate_left
                 · obtain ⟨⟨g0, g1, g2, g3, g4⟩, hy, -⟩ := hS
                   obtain ⟨f0, f1, f2, f3, f4⟩ := hy rfl
                   go_simp
                   try with_reducible rfl
                 simp only [Act.put, List.setIfInBounds_toArray, List.set_cons_zero, List.set_cons_succ])
              | (first
                   | refine w_call (by rfl) (fun w9 hS => ?_) KM.out ?_
                   | refine w_callg (by rfl) (by rfl) (fun w9 hS => ?_) KM.out ?_
                 · obtain ⟨⟨g0, g1, g2, g3, g4⟩, hy, -⟩ := hS
                   obtain ⟨f0, f1, f2, f3, f4⟩ := hy rfl
                   go_simp
                 simp only [Act.put, List.setIfInBounds_toArray, List.set_cons_zero, List.set_cons_succ]))
            refine w_end ?_
            intro w5 T5
            cases m
            · have HVB := Lib.hid (hVB rfl)
              clear hVS hVB
              go_wp2_with fail
              go_ret
              exact ⟨by rw [HVB.out]; rfl, below_add HB.out T5.2.2 HB.out.size⟩
            · have HVS := Lib.hid (hVS rfl)
              have HT := Lib.hid T5.2.2
              clear hVS hVB
              go_wp2_with fail
              go_roundw
              case rel => exact ⟨j + 1 + 1, by omega, by go_num, Lib.hid ⟨HRS.out, HVS.out⟩, below_add HB.out HT.out HB.out.size⟩
              case measure => simp [intOf]; omega
      · obtain rfl : k = xs.length := by omega
        have HB := Lib.hid hb
        have HG := Lib.hid (wf_good (rise_end HP.out.1) HLG.out (okV_end HP.out.2))
        clear hb
        go_wp2
        go_ret
        exact ⟨by rw [HG.out]; rfl, HB.out⟩
  · obtain rfl : xs = [] := List.eq_nil_of_length_eq_zero (by omega)
    clear hv h0 hl hW hlong
    go_enter Tryz.func119, Tryz.ntmps119
    go_wp2
    refine wp_loop_rounds 1 ?_
    rw [rounds_succ]
    go_wp2
    go_ret
    exact ⟨rfl, Below.refl _ _⟩
end Go.Proofs.YtohgopibimgjfaaGreat

/- A16: May, and the reference's -/
namespace Go.Proofs.YtohgopibimgjfaaGreat
open Go.RowKit
set_option linter.unusedVariables false

theorem ret_may {a b : Int} (h : a = b) : Ending.returned (.int .i64 a) = .returned (.int .i64 b) := by rw [h]

set_option maxRecDepth 100000 in
set_option maxHeartbeats 1000000 in
theorem may_any5 (p : Value) (ks : List Key) (v : Value) (xs : List Att) (w : World) (hs : Sch w p ks) (hv : Arow w v xs) (hW : ∀ a ∈ xs, AttW a) :
    Calls Tryz.prog 82 #[p, v] w fun e w' => e = .returned (.int .i64 (may5 ks xs)) ∧ Below w.heap.size w w' := by
  have hl := hv.len
  have hwf := wf_any v xs w hv hW
  cases hw5 : wf5 xs
  · rw [hw5] at hwf
    have HWF := Lib.hid hwf
    have HN := Lib.hid (may_3 (ks := ks) hw5)
    clear hv hs hW hwf hw5
    go_enter Tryz.func82, Tryz.ntmps82
    go_wp2_with (go_at_call 119; refine HWF.out.mono ?_; rintro e w1 ⟨rfl, hb1⟩)
    go_ret
    exact ⟨ret_may HN.out.symm, hb1⟩
  rw [hw5] at hwf
  have HWF := Lib.hid hwf
  have H5 := Lib.hid hw5
  clear hwf hw5
  obtain ⟨a1, cap1, rfl⟩ := hv.shape
  by_cases h0 : 0 < xs.length
  · obtain ⟨b1, o1, rfl, -, -, -, hbl, hat⟩ := Arow.opn hv h0
    have HAT := Lib.hid hat
    have HWA := Lib.hid hW
    have HS := Lib.hid hs
    clear hv hat hW hs
    go_enter Tryz.func82, Tryz.ntmps82
    go_wp2_with (go_at_call 119; refine HWF.out.mono ?_; rintro e w1 ⟨rfl, hb1⟩)
    have HB1 := Lib.hid hb1
    clear hb1
    go_loopw [12] (fun s12 wr => ∃ k : Nat, k ≤ xs.length ∧ s12 = .int .i64 k ∧ Hid (okF5 ks (xs.take k) = true) ∧ Below w.heap.size w wr) (fun s12 _ => xs.length - (intOf s12).toNat)
    case atStart => exact ⟨0, Nat.zero_le _, rfl, Lib.hid rfl, HB1.out⟩
    case round =>
      obtain ⟨k, hk, rfl, HP, hb⟩ := hrel
      by_cases hlt : k < xs.length
      · obtain ⟨c0, c1, c2, c3, c4⟩ := (HAT.out k hlt).below hb hbl
        have hw := HWA.out _ (List.getElem_mem hlt)
        have HF := Lib.hid (fun w1 (h1 : Below w.heap.size w w1) => fits_any p ks xs[k].key xs[k].k xs[k].n xs[k].f xs[k].s w1 (HS.out.below h1 (Nat.le_refl _)) hw.key hw.f0 hw.f1)
        have hFS := fun h => okF_step hlt HP.out h
        have hFB := fun h => may_4 H5.out (okF_bad (ks := ks) hlt h)
        clear hw
        generalize xs[k] = x at *
        obtain ⟨x1, x2, x3, x4, x5⟩ := x
        simp only at c0 c1 c2 c3 c4 HF hFS hFB
        have hB1 := hb.alloc hb.size (.cells (aca ⟨x1, x2, x3, x4, x5⟩) 61)
        have hbx := ABox.box ⟨x1, x2, x3, x4, x5⟩ wr 61
        have HFX := Lib.hid (HF.out _ hB1)
        have HB := Lib.hid hB1
        clear HF hB1 hb
        generalize fitsB ks x1 x2 x3 x4 x5 = m at *
        cases m
        · have HN := Lib.hid (hFB rfl)
          clear hFS hFB
          go_wp2_with (go_at_call 120; refine HFX.out.mono ?_; rintro e w2 ⟨rfl, hb2⟩)
          go_ret
          exact ⟨ret_may HN.out.symm, below_add HB.out hb2 HB.out.size⟩
        · have HN := Lib.hid (hFS rfl)
          clear hFS hFB
          go_wp2_with (go_at_call 120; refine HFX.out.mono ?_; rintro e w2 ⟨rfl, hb2⟩)
          go_roundw
          case rel => exact ⟨k + 1, by omega, by go_num, HN, below_add HB.out hb2 HB.out.size⟩
          case measure => simp [intOf]; omega
      · obtain rfl : k = xs.length := by omega
        have HB := Lib.hid hb
        have HG := Lib.hid (may_0 H5.out (okF_end HP.out))
        clear hb
        go_wp2
        go_ret
        exact ⟨ret_may HG.out.symm, HB.out⟩
  · obtain rfl : xs = [] := List.eq_nil_of_length_eq_zero (by omega)
    clear hv h0 hl hW hs H5
    go_enter Tryz.func82, Tryz.ntmps82
    go_wp2_with (go_at_call 119; refine HWF.out.mono ?_; rintro e w1 ⟨rfl, hb1⟩)
    refine wp_loop_rounds 1 ?_
    rw [rounds_succ]
    go_wp2
    go_ret
    exact ⟨rfl, hb1⟩

/-- The worlds of the reference's test. -/
def AtC (b o : Nat) (x : Att) (W W' : World) : Prop := AAt b o x W' ∧ Below W.heap.size W W'
theorem AtC.below {b o : Nat} {x : Att} {W w w' : World} (h : AtC b o x W w) (hb : Below w.heap.size w w') : AtC b o x W w' :=
  ⟨h.1.below hb (World.block_lt_of_cell? _ _ h.1.1), below_add h.2 hb h.2.size⟩

set_option maxRecDepth 100000 in
set_option maxHeartbeats 2000000 in
theorem rmay_any5 (p : Value) (ks : List Key) (v : Value) (xs : List Att) (w : World) (hs : Krow w p ks) (hv : Arow w v xs) (hW : ∀ a ∈ xs, AttW a) (hS : ∀ a ∈ xs, a.s.size ≤ 50000000) :
    Calls Tryz.prog 54 #[p, v] w fun e w' => e = .returned (.int .i64 (may5 ks xs)) ∧ Below w.heap.size w w' := by
  have hl := hv.len
  have hri := rising_any5 v xs w hv
  by_cases hr : Rise xs
  · rw [decide_eq_true hr] at hri
    have HRI := Lib.hid hri
    clear hri
    by_cases hlong : 64 < xs.length
    · have HN := Lib.hid (may_3 (ks := ks) (wf_badL hlong))
      have d1 : decide ((64 : Int) < (xs.length : Int)) = true := by rw [decide_eq_true_iff]; omega
      obtain ⟨a1, cap1, rfl⟩ := hv.shape
      clear hv hs hW hS hr hlong
      go_enter Tryz.func54, Tryz.ntmps54
      go_wp2_with (go_at_call 92; refine HRI.out.mono ?_; rintro e w1 ⟨rfl, q, rfl⟩)
      go_ret
      exact ⟨ret_may HN.out.symm, blw_drewN (Below.refl _ _) q⟩
    have d1 : decide ((64 : Int) < (xs.length : Int)) = false := by rw [decide_eq_false_iff_not]; omega
    have HRL := Lib.hid (show Rise xs ∧ xs.length ≤ 64 from ⟨hr, by omega⟩)
    clear hr hlong
    obtain ⟨a1, cap1, rfl⟩ := hv.shape
    by_cases h0 : 0 < xs.length
    · obtain ⟨b1, o1, rfl, -, -, -, hbl, hat⟩ := Arow.opn hv h0
      have HAT := Lib.hid hat
      have HWA := Lib.hid hW
      have HSZ := Lib.hid hS
      have HS := Lib.hid hs
      clear hv hat hW hs hS
      go_enter Tryz.func54, Tryz.ntmps54
      go_wp2_with (go_at_call 92; refine HRI.out.mono ?_; rintro e w1 ⟨rfl, q, rfl⟩)
      go_loopw [5] (fun s5 wr => ∃ k : Nat, k ≤ xs.length ∧ s5 = .int .i64 k ∧ Hid (okV (xs.take k) = true) ∧ Below w.heap.size w wr) (fun s5 _ => xs.length - (intOf s5).toNat)
      case atStart => exact ⟨0, Nat.zero_le _, rfl, Lib.hid rfl, blw_drewN (Below.refl _ _) q⟩
      case round =>
        obtain ⟨k, hk, rfl, HP, hb⟩ := hrel
        by_cases hlt : k < xs.length
        · obtain ⟨c0, c1, c2, c3, c4⟩ := (HAT.out k hlt).below hb hbl
          have hw := HWA.out _ (List.getElem_mem hlt)
          have hz := HSZ.out _ (List.getElem_mem hlt)
          have HM := Lib.hid (rvmay_any xs[k].k xs[k].n xs[k].f xs[k].s wr hw.f0 hw.f1 hz)
          have hVS := fun h => okV_step hlt HP.out h
          have hVB := fun h => may_3 (ks := ks) (wf_badV (okV_bad hlt h))
          have HB := Lib.hid hb
          clear hw hz hb
          generalize xs[k] = x at *
          obtain ⟨x1, x2, x3, x4, x5⟩ := x
          simp only at c0 c1 c2 c3 c4 HM hVS hVB
          generalize vmay x2 x3 x4 x5 = m at *
          cases m
          · have HN := Lib.hid (hVB rfl)
            clear hVS hVB
            go_wp2_with (go_at_call 93; refine HM.out.mono ?_; rintro e w2 ⟨rfl, hb2⟩)
            go_ret
            exact ⟨ret_may HN.out.symm, below_add HB.out hb2 HB.out.size⟩
          · have HN := Lib.hid (hVS rfl)
            clear hVS hVB
            go_wp2_with (go_at_call 93; refine HM.out.mono ?_; rintro e w2 ⟨rfl, hb2⟩)
            go_roundw
            case rel => exact ⟨k + 1, by omega, by go_num, HN, below_add HB.out hb2 HB.out.size⟩
            case measure => simp [intOf]; omega
        · obtain rfl : k = xs.length := by omega
          have HB := Lib.hid hb
          have H5 := Lib.hid (wf_good HRL.out.1 HRL.out.2 (okV_end HP.out))
          clear hb
          go_wp2_with fail
          go_loopw [6] (fun s6 wr => ∃ k : Nat, k ≤ xs.length ∧ s6 = .int .i64 k ∧ Hid (okF5 ks (xs.take k) = true) ∧ Below w.heap.size w wr) (fun s6 _ => xs.length - (intOf s6).toNat)
          case atStart => exact ⟨0, Nat.zero_le _, rfl, Lib.hid rfl, HB.out⟩
          case round =>
            obtain ⟨k, hk, rfl, HP, hb⟩ := hrel
            by_cases hlt : k < xs.length
            · have hAT := (HAT.out k hlt).below hb hbl
              have hw := HWA.out _ (List.getElem_mem hlt)
              have hz := HSZ.out _ (List.getElem_mem hlt)
              have HF := Lib.hid (fun w1 (h1 : Below w.heap.size w w1) => rfits_any p ks xs[k].key xs[k].k xs[k].n xs[k].f xs[k].s w1 (HS.out.below h1 (Nat.le_refl _)) hw.f0 hw.f1 hz)
              have hFS := fun h => okF_step hlt HP.out h
              have hFB := fun h => may_4 H5.out (okF_bad (ks := ks) hlt h)
              clear hw hz
              generalize xs[k] = x at *
              obtain ⟨x1, x2, x3, x4, x5⟩ := x
              simp only at HF hFS hFB
              generalize fitsB ks x1 x2 x3 x4 x5 = m at *
              have HBR := Lib.hid hb
              have HC0 := Lib.hid (show AtC b1 (o1 + k * 5) ⟨x1, x2, x3, x4, x5⟩ wr wr from ⟨hAT, Below.refl _ _⟩)
              have KF := Lib.hid (fun w9 (hS : AtC b1 (o1 + k * 5) ⟨x1, x2, x3, x4, x5⟩ wr w9) => (HF.out w9 (below_add HBR.out hS.2 HBR.out.size)).mono fun e w' (h : _ ∧ _) => (⟨h.1, hS.below h.2⟩ : _ ∧ AtC b1 (o1 + k * 5) ⟨x1, x2, x3, x4, x5⟩ wr w'))
              clear hb hAT HF
              go_wp2_with fail
              refine region_classw (C := AtC b1 (o1 + k * 5) ⟨x1, x2, x3, x4, x5⟩ wr) (by kernel_rfl) (by kernel_rfl) (HC0.out.below (Below.refl _ _).drew) ?_
              repeat (first
                | (refine w_skip (by rfl) (by rfl) ?_
                   simp only [Act.put, List.setIfInBounds_toArray, List.set_cons_zero, List.set_cons_succ])
                | (first
                     | refine w_val (v := ?_) (by rfl) (fun w9 hS => ?_) ?_
                     | refine w_valg (v := ?_) (by rfl) (by rfl) (fun w9 hS => ?_) ?_
                   rotate_left
                   · obtain ⟨⟨g0, g1, g2, g3, g4⟩, -⟩ := hS
                     go_simp
                     try with_reducible rfl
                   simp only [Act.put, List.setIfInBounds_toArray, List.set_cons_zero, List.set_cons_succ])
                | (first
                     | refine w_call (by rfl) (fun w9 hS => ?_) KF.out ?_
                     | refine w_callg (by rfl) (by rfl) (fun w9 hS => ?_) KF.out ?_
                   · obtain ⟨⟨g0, g1, g2, g3, g4⟩, -⟩ := hS
                     go_simp
                   simp only [Act.put, List.setIfInBounds_toArray, List.set_cons_zero, List.set_cons_succ]))
              refine w_end ?_
              intro w5 T5
              cases m
              · have HN := Lib.hid (hFB rfl)
                clear hFS hFB
                go_wp2_with fail
                go_ret
                exact ⟨ret_may HN.out.symm, below_add HBR.out T5.2 HBR.out.size⟩
              · have HN := Lib.hid (hFS rfl)
                have HT := Lib.hid T5.2
                clear hFS hFB
                go_wp2_with fail
                go_roundw
                case rel => exact ⟨k + 1, by omega, by go_num, HN, below_add HBR.out HT.out HBR.out.size⟩
                case measure => simp [intOf]; omega
            · obtain rfl : k = xs.length := by omega
              have HB := Lib.hid hb
              have HG := Lib.hid (may_0 H5.out (okF_end HP.out))
              clear hb
              go_wp2
              go_ret
              exact ⟨ret_may HG.out.symm, HB.out⟩
    · obtain rfl : xs = [] := List.eq_nil_of_length_eq_zero (by omega)
      clear hv h0 hl hW hs hS HRL
      go_enter Tryz.func54, Tryz.ntmps54
      go_wp2_with (go_at_call 92; refine HRI.out.mono ?_; rintro e w1 ⟨rfl, q, rfl⟩)
      refine wp_loop_rounds 1 ?_
      rw [rounds_succ]
      go_wp2
      refine wp_loop_rounds 1 ?_
      rw [rounds_succ]
      go_wp2
      go_ret
      exact ⟨rfl, blw_drewN (Below.refl _ _) q⟩
  · rw [decide_eq_false hr] at hri
    have HRI := Lib.hid hri
    have HN := Lib.hid (may_3 (ks := ks) (wf_badR hr))
    obtain ⟨a1, cap1, rfl⟩ := hv.shape
    clear hri hv hs hW hS hr
    go_enter Tryz.func54, Tryz.ntmps54
    go_wp2_with (go_at_call 92; refine HRI.out.mono ?_; rintro e w1 ⟨rfl, q, rfl⟩)
    go_ret
    exact ⟨ret_may HN.out.symm, blw_drewN (Below.refl _ _) q⟩
end Go.Proofs.YtohgopibimgjfaaGreat

/- C1: changes as plain data -/
namespace Go.Proofs.YtohgopibimgjfaaGreat
open Go.RowKit
set_option linter.unusedVariables false

/-- A change: its key, whether it is gone, and the value's kind, number, bits, text. -/
structure Chg where
  key : Int
  g : Bool
  k : Int
  n : Int
  f : Int
  s : ByteArray
deriving DecidableEq

@[reducible] def cv (a : Chg) : Value := .agg #[.int .i64 a.key, .bool a.g, .int .u8 a.k, .int .i64 a.n, .int .u64 a.f, .string a.s]
@[reducible] def cc (a : Chg) : List Value := [.int .i64 a.key, .bool a.g, .int .u8 a.k, .int .i64 a.n, .int .u64 a.f, .string a.s]
@[reducible] def cca (a : Chg) : Array Value := #[.int .i64 a.key, .bool a.g, .int .u8 a.k, .int .i64 a.n, .int .u64 a.f, .string a.s]
@[reducible] def noChg : Chg := ⟨0, false, 0, 0, 0, ⟨#[]⟩⟩
instance : Inhabited Chg := ⟨noChg⟩

theorem cc_one (a : Chg) : ∀ u ∈ cc a, u.oneCell' = true := by
  intro u hu
  simp at hu
  rcases hu with rfl | rfl | rfl | rfl | rfl | rfl <;> rfl
/-- How a change lies: six cells. -/
def chC : Cel Chg := ⟨cc, 6, fun _ => rfl, cc_one, by decide⟩
/-- What a change's numbers are within. -/
structure ChgW (a : Chg) : Prop where
  key : (Lit.int .i64 a.key).wf = true
  k : (Lit.int .u8 a.k).wf = true
  n : (Lit.int .i64 a.n).wf = true
  f : (Lit.int .u64 a.f).wf = true
  s : a.s.size ≤ maxLen
theorem ChgW.f0 {a : Chg} (h : ChgW a) : 0 ≤ a.f := by have := Go.bounds_u64 h.f; omega
theorem ChgW.f1 {a : Chg} (h : ChgW a) : a.f < 18446744073709551616 := by have := Go.bounds_u64 h.f; omega

/-- Its six cells at a place; at a block's head. -/
@[reducible] def CAt (b o : Nat) (a : Chg) (w : World) : Prop :=
  w.cell? ⟨b, o, none⟩ = some (.int .i64 a.key) ∧ w.cell? ⟨b, o + 1, none⟩ = some (.bool a.g) ∧ w.cell? ⟨b, o + 2, none⟩ = some (.int .u8 a.k) ∧ w.cell? ⟨b, o + 3, none⟩ = some (.int .i64 a.n) ∧ w.cell? ⟨b, o + 4, none⟩ = some (.int .u64 a.f) ∧ w.cell? ⟨b, o + 5, none⟩ = some (.string a.s)
@[reducible] def CBox (b : Nat) (a : Chg) (w : World) : Prop :=
  w.cell? ⟨b, 0, none⟩ = some (.int .i64 a.key) ∧ w.cell? ⟨b, 1, none⟩ = some (.bool a.g) ∧ w.cell? ⟨b, 2, none⟩ = some (.int .u8 a.k) ∧ w.cell? ⟨b, 3, none⟩ = some (.int .i64 a.n) ∧ w.cell? ⟨b, 4, none⟩ = some (.int .u64 a.f) ∧ w.cell? ⟨b, 5, none⟩ = some (.string a.s)
theorem CAt.below {B b o : Nat} {a : Chg} {w w' : World} (h : CAt b o a w) (hb : Below B w w') (hB : b < B) : CAt b o a w' := by
  obtain ⟨h0, h1, h2, h3, h4, h5⟩ := h
  exact ⟨(hb.cell (p := ⟨b, _, none⟩) hB).trans h0, (hb.cell (p := ⟨b, _, none⟩) hB).trans h1, (hb.cell (p := ⟨b, _, none⟩) hB).trans h2, (hb.cell (p := ⟨b, _, none⟩) hB).trans h3, (hb.cell (p := ⟨b, _, none⟩) hB).trans h4, (hb.cell (p := ⟨b, _, none⟩) hB).trans h5⟩
theorem CBox.below {B b : Nat} {a : Chg} {w w' : World} (h : CBox b a w) (hb : Below B w w') (hB : b < B) : CBox b a w' := by
  obtain ⟨h0, h1, h2, h3, h4, h5⟩ := h
  exact ⟨(hb.cell (p := ⟨b, _, none⟩) hB).trans h0, (hb.cell (p := ⟨b, _, none⟩) hB).trans h1, (hb.cell (p := ⟨b, _, none⟩) hB).trans h2, (hb.cell (p := ⟨b, _, none⟩) hB).trans h3, (hb.cell (p := ⟨b, _, none⟩) hB).trans h4, (hb.cell (p := ⟨b, _, none⟩) hB).trans h5⟩
theorem CBox.box (a : Chg) (w : World) (t : TypeId) : CBox w.heap.size a (w.alloc (.cells (cca a) t)) := by
  refine ⟨?_, ?_, ?_, ?_, ?_, ?_⟩ <;> (rw [cell_of_row _ w.heap.size _ _ t (0, 0) (heap_alloc_new w _)]; rfl)
theorem CBox.lt {b : Nat} {a : Chg} {w : World} (h : CBox b a w) : b < w.heap.size := World.block_lt_of_cell? w _ h.1
theorem CAt.lt {b o : Nat} {a : Chg} {w : World} (h : CAt b o a w) : b < w.heap.size := World.block_lt_of_cell? w _ h.1

/-- A slice of changes that reads as xs. -/
@[reducible] def Crow (w : World) (v : Value) (xs : List Chg) : Prop := Row chC w v xs
theorem Crow.opn {w : World} {a : Option Addr} {n cap : Nat} {xs : List Chg} (h : Crow w (.slice a n cap) xs) (h0 : 0 < xs.length) :
    ∃ b off, a = some ⟨b, off, none⟩ ∧ n = xs.length ∧ xs.length ≤ cap ∧ cap ≤ maxLen ∧ b < w.heap.size ∧ (∀ j (hj : j < xs.length), CAt b (off + j * 6) xs[j] w) := by
  obtain ⟨b, off, ha, hn, hc, hm, hb, hat, -⟩ := Row.opened h h0
  refine ⟨b, off, ha, hn, hc, hm, hb, fun j hj => ⟨?_, ?_, ?_, ?_, ?_, ?_⟩⟩
  · exact hat j hj 0 _ rfl
  · exact hat j hj 1 _ rfl
  · exact hat j hj 2 _ rfl
  · exact hat j hj 3 _ rfl
  · exact hat j hj 4 _ rfl
  · exact hat j hj 5 _ rfl

set_option maxRecDepth 100000 in
theorem info_ch : ∃ i0, Tryz.prog.info? 63 = some i0 ∧ i0.zero = some (cv noChg) ∧ i0.size = 6 ∧ i0.bytes = 56 := by
  refine ⟨_, rfl, ?_, ?_, ?_⟩ <;> kernel_rfl
set_option maxRecDepth 100000 in
theorem info_at : ∃ i0, Tryz.prog.info? 61 = some i0 ∧ i0.zero = some (av noAtt) ∧ i0.size = 5 ∧ i0.bytes = 48 := by
  refine ⟨_, rfl, ?_, ?_, ?_⟩ <;> kernel_rfl

def ceq (a b : Chg) : Bool := (a.key == b.key) && ((a.g == b.g) && ((a.k == b.k) && (a.n == b.n) && (a.f == b.f) && (a.s.toList == b.s.toList)))
theorem ceq_iff (a b : Chg) : ceq a b = true ↔ a = b := by
  obtain ⟨a1, a0, a2, a3, a4, a5⟩ := a
  obtain ⟨b1, b0, b2, b3, b4, b5⟩ := b
  have hs : a5.toList = b5.toList ↔ a5 = b5 := by
    rw [ByteArray.toList_eq, ByteArray.toList_eq]
    exact ⟨fun h => Go.WideShapes.bytes_inj h, fun h => by rw [h]⟩
  simp [ceq, hs, and_assoc]
theorem ceq_dec (a b : Chg) : ceq a b = decide (a = b) := by
  rw [Bool.eq_iff_iff, ceq_iff]; simp

set_option maxRecDepth 100000 in
set_option maxHeartbeats 800000 in
theorem chg_in (a b : Chg) (w : World) : (Op.equalIn 10000 63 (cv a) (cv b)).run Tryz.prog w = .ok (ceq a b) w := by
  obtain ⟨a1, a0, a2, a3, a4, a5⟩ := a
  obtain ⟨b1, b0, b2, b3, b4, b5⟩ := b
  have hS : Tryz.prog.underlying 63 = some (.struct (Tryz.prog.fieldsOf 63)) := by kernel_rfl
  have hp : Tryz.prog.stoodInHeld 63 = false := by kernel_rfl
  have u0 := Tryz.underlying3
  have ag0 := Tryz.isAgg3
  have ag4 := Tryz.isAgg4
  have ag5 := Tryz.isAgg59
  have z0 := Tryz.sizeOf3
  have z4 := Tryz.sizeOf4
  have z5 := Tryz.sizeOf59
  rw [show (10000 : Nat) = 9999 + 1 from rfl, run_equalIn_agg w 9999 63 _ _ hS hp]
  simp only [Program.fieldsOf, Tryz.underlying63]
  simp only [Op.eqFields, ne_eq]
  go_simp
  unfold ceq
  by_cases h1 : a1 = b1 <;> by_cases h0 : a0 = b0 <;> by_cases h2 : a2 = b2 <;> by_cases h3 : a3 = b3 <;> by_cases h4 : a4 = b4 <;> by_cases h5 : a5.toList = b5.toList <;> simp [h1, h0, h2, h3, h4, h5]
theorem chg_neq (a b : Chg) (w : World) : (binOp .neq 63 (cv a) (cv b)).run Tryz.prog w = .ok (.bool (!ceq a b)) w := by
  rw [run_neq_struct, chg_in]; rfl

@[reducible] def toA (c : Chg) : Att := ⟨c.key, c.k, c.n, c.f, c.s⟩
/-- A new row of one, of two. -/
theorem crow_one (w : World) (x : Chg) (t : TypeId) : Crow (w.alloc (.cells (cca x) t)) (.slice (some ⟨w.heap.size, 0, none⟩) 1 1) [x] := Row.built (C := chC) w t [x] (by unfold maxLen; simp)
end Go.Proofs.YtohgopibimgjfaaGreat

/- C3: what the closures do to the list that they put to -/
namespace Go.Proofs.YtohgopibimgjfaaGreat
open Go.RowKit
set_option linter.unusedVariables false

theorem below_ad (W : World) (ob : Obj) : Below W.heap.size W (W.alloc ob).drew := ((Below.refl _ _).alloc (Nat.le_refl _) ob).drew
end Go.Proofs.YtohgopibimgjfaaGreat

/- C4: Compose, Less; what Diff does with two rows -/
namespace Go.Proofs.YtohgopibimgjfaaGreat
open Go.RowKit Go.Shelf
set_option linter.unusedVariables false

/-- A list of changes that the call made. -/
@[reducible] def Own6 (w w' : World) (u : Value) (ls : List Chg) : Prop := w'.ownsRow w.heap.size 63 6 u ls.length (fl chC ls)
end Go.Proofs.YtohgopibimgjfaaGreat

/- C5: a set as a patch, a patch as a set; Diff, Apply, Invert -/
namespace Go.Proofs.YtohgopibimgjfaaGreat
open Go.RowKit
set_option linter.unusedVariables false

theorem tsnoc {α : Type} {xs : List α} {k : Nat} (h : k < xs.length) : xs.take (k + 1) = xs.take k ++ [xs[k]] := List.take_succ_eq_append_getElem h
theorem tend {α : Type} (xs : List α) : xs.take xs.length = xs := List.take_of_length_le (Nat.le_refl _)
def ats (xs : List Chg) : List Att := (xs.filter fun c => !c.g).map toA
theorem ats_len (xs : List Chg) : (ats xs).length ≤ xs.length := by unfold ats; rw [List.length_map]; exact List.length_filter_le _ _
theorem ats_yes {xs : List Chg} {k : Nat} (h : k < xs.length) (hg : xs[k].g = false) : ats (xs.take (k + 1)) = ats (xs.take k) ++ [toA xs[k]] := by unfold ats; rw [tsnoc h, List.filter_append, List.map_append]; simp [hg]
theorem ats_no {xs : List Chg} {k : Nat} (h : k < xs.length) (hg : xs[k].g = true) : ats (xs.take (k + 1)) = ats (xs.take k) := by unfold ats; rw [tsnoc h, List.filter_append, List.map_append]; simp [hg]

set_option maxRecDepth 100000 in
set_option maxHeartbeats 1000000 in
theorem attributes_any (v : Value) (xs : List Chg) (w : World) (hv : Crow w v xs) (hl : xs.length ≤ 1000000000) :
    Calls Tryz.prog 117 #[v] w fun e w' => ∃ u, e = .returned u ∧ Own5 w w' u (ats xs) ∧ Below w.heap.size w w' := by
  obtain ⟨i0, hi, hz0, hz1, hz2⟩ := info_at
  obtain ⟨a1, cap1, rfl⟩ := hv.shape
  by_cases h0 : 0 < xs.length
  · obtain ⟨b1, o1, rfl, -, -, -, hbl, hat⟩ := Crow.opn hv h0
    have HAT := Lib.hid hat
    clear hv hat
    go_enter Tryz.func117, Tryz.ntmps117
    go_wp2
    go_loopw [3, 8] (fun s3 s8 wr => ∃ k : Nat, k ≤ xs.length ∧ s8 = .int .i64 k ∧ Grows w (ats (xs.take k)) s3 wr) (fun _ s8 _ => xs.length - (intOf s8).toNat)
    case atStart => exact ⟨0, Nat.zero_le _, rfl, own5_nil _ _, Below.refl _ _⟩
    case round =>
      obtain ⟨k, hk, rfl, hR⟩ := hrel
      by_cases hlt : k < xs.length
      · obtain ⟨c0, c1, c2, c3, c4, c5⟩ := (HAT.out k hlt).below hR.2 hbl
        have hY := fun h => ats_yes hlt h
        have hN := fun h => ats_no hlt h
        have hll : (ats (xs.take k)).length ≤ 1000000000 := by have := ats_len (xs.take k); rw [List.length_take] at this; omega
        have hsz := hR.2.size
        have HR := Lib.hid hR
        clear hR
        generalize xs[k] = x at *
        obtain ⟨x1, x0, x2, x3, x4, x5⟩ := x
        simp only at c0 c1 c2 c3 c4 c5 hY hN
        have hE : Below wr.heap.size wr (wr.alloc (.cells #[.int .i64 x1, .bool x0, .int .u8 x2, .int .i64 x3, .int .u64 x4, .string x5] 63)) := (Below.refl _ _).alloc (Nat.le_refl _) _
        cases x0
        · have HS := Lib.hid (hY rfl)
          clear hY hN
          generalize ats (xs.take k) = ls at *
          go_wp2_with (at_builtin; go_loud (refine wpList_append_row (C := attC) rfl (.tmp 15) (.tmp 21) 53 rfl w.heap.size 61 i0 (av noAtt) 48 Tryz.underlying53 hi hz0 hz1 hz2 rfl _ _ _ rfl (owns_below HR.out.1 (hE.alloc hE.size _)) _ [⟨x1, x2, x3, x4, x5⟩] rfl (row_new1 wr _ ⟨x1, x2, x3, x4, x5⟩ 61) (by unfold maxLen; simp; omega) (by simp; omega) (by simp; omega) ?_); intro v3 w3 hown3 hgrow3)
          have HC := Lib.hid (grows_more HR.out (hE.alloc hE.size _) hown3 hgrow3)
          go_roundw
          case rel => exact ⟨k + 1, by omega, by go_num, by rw [HS.out]; exact HC.out⟩
          case measure => simp [intOf]; omega
        · have HS := Lib.hid (hN rfl)
          clear hY hN
          have HC := Lib.hid (grows_stay HR.out hE)
          go_wp2
          go_roundw
          case rel => exact ⟨k + 1, by omega, by go_num, by rw [HS.out]; exact HC.out⟩
          case measure => simp [intOf]; omega
      · obtain rfl : k = xs.length := by omega
        have HR := Lib.hid hR
        clear hR
        go_wp2
        go_ret
        have h := HR.out
        rw [tend] at h
        exact ⟨_, rfl, h⟩
  · obtain rfl : xs = [] := List.eq_nil_of_length_eq_zero (by omega)
    clear hv h0 hl
    go_enter Tryz.func117, Tryz.ntmps117
    go_wp2
    refine wp_loop_rounds 1 ?_
    rw [rounds_succ]
    go_wp2
    go_ret
    exact ⟨_, rfl, own5_nil _ _, Below.refl _ _⟩

end Go.Proofs.YtohgopibimgjfaaGreat

/- C6: patches held against one another; rising; Clone, Copy -/
namespace Go.Proofs.YtohgopibimgjfaaGreat
open Go.RowKit
set_option linter.unusedVariables false

theorem ceq_step {xs ys : List Chg} {k : Nat} (h1 : k < xs.length) (h2 : k < ys.length) (h : xs.take k = ys.take k) (he : xs[k] = ys[k]) : xs.take (k + 1) = ys.take (k + 1) := by
  rw [tsnoc h1, tsnoc h2, h, he]
theorem ceq_end {xs ys : List Chg} (hl : xs.length = ys.length) (h : xs.take xs.length = ys.take xs.length) : xs = ys := by
  rw [List.take_of_length_le (Nat.le_refl _), hl, List.take_of_length_le (Nat.le_refl _)] at h; exact h
theorem ceq_bad {xs ys : List Chg} {k : Nat} (h1 : k < xs.length) (h2 : k < ys.length) (he : ¬ xs[k] = ys[k]) : ¬ xs = ys := by
  intro h; subst h; exact he rfl

set_option maxRecDepth 100000 in
theorem cequal_any (v1 v2 : Value) (xs ys : List Chg) (w : World) (h1 : Crow w v1 xs) (h2 : Crow w v2 ys) :
    Calls Tryz.prog 145 #[v1, v2] w fun e w' => e = .returned (.bool (decide (xs = ys))) ∧ ∃ q, w' = w.drewN q := by
  have hl1 := h1.len
  have hl2 := h2.len
  obtain ⟨a1, cap1, rfl⟩ := h1.shape
  obtain ⟨a2, cap2, rfl⟩ := h2.shape
  by_cases hl : xs.length = ys.length
  · by_cases h0 : 0 < xs.length
    · obtain ⟨b1, o1, rfl, -, -, -, -, hat1⟩ := Crow.opn h1 h0
      obtain ⟨b2, o2, rfl, -, -, -, -, hat2⟩ := Crow.opn h2 (by omega)
      clear h1 h2
      have H1 := Lib.hid hat1
      have H2 := Lib.hid hat2
      have HL := Lib.hid hl
      clear hat1 hat2
      rw [← hl]
      clear hl hl2
      go_enter Tryz.func145, Tryz.ntmps145
      go_wp2
      go_loopw [13] (fun i wr => ∃ k q : Nat, k ≤ xs.length ∧ i = .int .i64 k ∧ wr = w.drewN q ∧ Hid (xs.take k = ys.take k)) (fun i _ => xs.length - (intOf i).toNat)
      case atStart => exact ⟨0, 0, Nat.zero_le _, rfl, rfl, Lib.hid rfl⟩
      case round =>
        obtain ⟨k, q, hk, rfl, rfl, HP⟩ := hrel
        by_cases hlt : k < xs.length
        · have hlt2 : k < ys.length := by rw [← HL.out]; exact hlt
          obtain ⟨c0, c1, c2, c3, c4, c5⟩ := H1.out k hlt
          obtain ⟨d0, d1, d2, d3, d4, d5⟩ := H2.out k hlt2
          have hS := fun h => ceq_step hlt hlt2 HP.out h
          have hE := fun h => ceq_bad hlt hlt2 h
          have hD : ceq xs[k] ys[k] = decide (xs[k] = ys[k]) := ceq_dec _ _
          have hq := fun w => chg_neq xs[k] ys[k] w
          generalize xs[k] = x at *
          generalize ys[k] = y at *
          by_cases hxy : x = y
          · have HS := Lib.hid (hS hxy)
            have e1 : ceq x y = true := by rw [hD]; simp [hxy]
            rw [e1] at hq
            obtain ⟨x1, x0, x2, x3, x4, x5⟩ := x
            obtain ⟨y1, y0, y2, y3, y4, y5⟩ := y
            clear hS hE hD e1 hxy
            simp only at c0 c1 c2 c3 c4 c5 d0 d1 d2 d3 d4 d5 hq
            go_wp2
            go_quiet (fail)
            go_wp2
            go_roundw
            case rel => exact ⟨k + 1, q + nq, by omega, by go_num, by simp, HS⟩
            case measure => simp [intOf]; omega
          · have HS := Lib.hid (hE hxy)
            have e1 : ceq x y = false := by rw [hD]; simp [hxy]
            rw [e1] at hq
            obtain ⟨x1, x0, x2, x3, x4, x5⟩ := x
            obtain ⟨y1, y0, y2, y3, y4, y5⟩ := y
            clear hS hE hD e1 hxy
            simp only at c0 c1 c2 c3 c4 c5 d0 d1 d2 d3 d4 d5 hq
            go_wp2
            go_quiet (fail)
            go_wp2
            go_ret
            exact ⟨dec_no HS.out, q + nq, by simp⟩
        · obtain rfl : k = xs.length := by omega
          have HE := Lib.hid (ceq_end HL.out HP.out)
          clear HP
          go_wp2
          go_ret
          exact ⟨dec_yes HE.out, _, rfl⟩
    · obtain rfl : xs = [] := List.eq_nil_of_length_eq_zero (by omega)
      obtain rfl : ys = [] := List.eq_nil_of_length_eq_zero (by simpa using hl.symm)
      clear h1 h2 h0 hl hl1 hl2
      go_enter Tryz.func145, Tryz.ntmps145
      go_wp2
      refine wp_loop_rounds 1 ?_
      rw [rounds_succ]
      go_wp2
      go_ret
      exact ⟨rfl, 0, rfl⟩
  · have HN := Lib.hid (show ¬ xs = ys from fun h => hl (by rw [h]))
    have e1 : ((xs.length : Int) != (ys.length : Int)) = true := by simp; omega
    clear h1 h2
    go_enter Tryz.func145, Tryz.ntmps145
    go_wp2
    go_ret
    exact ⟨dec_no HN.out, 0, rfl⟩

theorem same_any6 (v1 v2 : Value) (xs ys : List Chg) (w : World) (h1 : Crow w v1 xs) (h2 : Crow w v2 ys) :
    Calls Tryz.prog 136 #[v1, v2] w fun e w' => e = .returned (.bool (decide (xs = ys))) ∧ Below w.heap.size w w' := by
  have HE := Lib.hid (cequal_any v1 v2 xs ys w h1 h2)
  clear h1 h2
  go_enter Tryz.func136, Tryz.ntmps136
  go_wp2_with (go_at_call 145; ((with_reducible refine HE.out.mono ?_); rintro e w1 ⟨rfl, q, rfl⟩))
  go_ret
  exact ⟨rfl, blw_drewN (Below.refl _ _) q⟩
set_option maxRecDepth 100000 in
theorem rsame_any6 (v1 v2 : Value) (xs ys : List Chg) (w : World) (h1 : Crow w v1 xs) (h2 : Crow w v2 ys) :
    Calls Tryz.prog 27 #[v1, v2] w fun e w' => e = .returned (.bool (decide (xs = ys))) ∧ ∃ q, w' = w.drewN q := by
  have hl1 := h1.len
  have hl2 := h2.len
  obtain ⟨a1, cap1, rfl⟩ := h1.shape
  obtain ⟨a2, cap2, rfl⟩ := h2.shape
  by_cases hl : xs.length = ys.length
  · by_cases h0 : 0 < xs.length
    · obtain ⟨b1, o1, rfl, -, -, -, -, hat1⟩ := Crow.opn h1 h0
      obtain ⟨b2, o2, rfl, -, -, -, -, hat2⟩ := Crow.opn h2 (by omega)
      clear h1 h2
      have H1 := Lib.hid hat1
      have H2 := Lib.hid hat2
      have HL := Lib.hid hl
      clear hat1 hat2
      rw [← hl]
      clear hl hl2
      go_enter Tryz.func27, Tryz.ntmps27
      go_wp2
      go_loopw [5] (fun i wr => ∃ k q : Nat, k ≤ xs.length ∧ i = .int .i64 k ∧ wr = w.drewN q ∧ Hid (xs.take k = ys.take k)) (fun i _ => xs.length - (intOf i).toNat)
      case atStart => exact ⟨0, 0, Nat.zero_le _, rfl, rfl, Lib.hid rfl⟩
      case round =>
        obtain ⟨k, q, hk, rfl, rfl, HP⟩ := hrel
        by_cases hlt : k < xs.length
        · have hlt2 : k < ys.length := by rw [← HL.out]; exact hlt
          obtain ⟨c0, c1, c2, c3, c4, c5⟩ := H1.out k hlt
          obtain ⟨d0, d1, d2, d3, d4, d5⟩ := H2.out k hlt2
          have hS := fun h => ceq_step hlt hlt2 HP.out h
          have hE := fun h => ceq_bad hlt hlt2 h
          have hD : ceq xs[k] ys[k] = decide (xs[k] = ys[k]) := ceq_dec _ _
          have hq := fun w => chg_neq xs[k] ys[k] w
          generalize xs[k] = x at *
          generalize ys[k] = y at *
          by_cases hxy : x = y
          · have HS := Lib.hid (hS hxy)
            have e1 : ceq x y = true := by rw [hD]; simp [hxy]
            rw [e1] at hq
            obtain ⟨x1, x0, x2, x3, x4, x5⟩ := x
            obtain ⟨y1, y0, y2, y3, y4, y5⟩ := y
            clear hS hE hD e1 hxy
            simp only at c0 c1 c2 c3 c4 c5 d0 d1 d2 d3 d4 d5 hq
            go_wp2
            go_quiet (fail)
            go_wp2
            go_roundw
            case rel => exact ⟨k + 1, q + nq, by omega, by go_num, by simp, HS⟩
            case measure => simp [intOf]; omega
          · have HS := Lib.hid (hE hxy)
            have e1 : ceq x y = false := by rw [hD]; simp [hxy]
            rw [e1] at hq
            obtain ⟨x1, x0, x2, x3, x4, x5⟩ := x
            obtain ⟨y1, y0, y2, y3, y4, y5⟩ := y
            clear hS hE hD e1 hxy
            simp only at c0 c1 c2 c3 c4 c5 d0 d1 d2 d3 d4 d5 hq
            go_wp2
            go_quiet (fail)
            go_wp2
            go_ret
            exact ⟨dec_no HS.out, q + nq, by simp⟩
        · obtain rfl : k = xs.length := by omega
          have HE := Lib.hid (ceq_end HL.out HP.out)
          clear HP
          go_wp2
          go_ret
          exact ⟨dec_yes HE.out, _, rfl⟩
    · obtain rfl : xs = [] := List.eq_nil_of_length_eq_zero (by omega)
      obtain rfl : ys = [] := List.eq_nil_of_length_eq_zero (by simpa using hl.symm)
      clear h1 h2 h0 hl hl1 hl2
      go_enter Tryz.func27, Tryz.ntmps27
      go_wp2
      refine wp_loop_rounds 1 ?_
      rw [rounds_succ]
      go_wp2
      go_ret
      exact ⟨rfl, 0, rfl⟩
  · have HN := Lib.hid (show ¬ xs = ys from fun h => hl (by rw [h]))
    have e1 : ((xs.length : Int) != (ys.length : Int)) = true := by simp; omega
    clear h1 h2
    go_enter Tryz.func27, Tryz.ntmps27
    go_wp2
    go_ret
    exact ⟨dec_no HN.out, 0, rfl⟩


/-- Keys rise. -/
def RiseC (xs : List Chg) : Prop := xs.Pairwise (fun a b => a.key < b.key)
instance (xs : List Chg) : Decidable (RiseC xs) := by unfold RiseC; infer_instance
theorem crise_nil : RiseC [] := List.Pairwise.nil
theorem crise_step {xs : List Chg} {k : Nat} (h : k + 1 < xs.length) (hr : RiseC (xs.take (k + 1))) (hl : xs[k].key < xs[k + 1].key) : RiseC (xs.take (k + 1 + 1)) := by
  rw [tsnoc h]
  refine List.pairwise_append.2 ⟨hr, by simp, fun a ha b hb => ?_⟩
  simp at hb
  subst hb
  rw [tsnoc (by omega : k < xs.length)] at ha hr
  rcases List.mem_append.1 ha with ha | ha
  · have := (List.pairwise_append.1 hr).2.2 a ha xs[k] (by simp)
    omega
  · simp at ha; subst ha; exact hl
theorem crise_bad {xs : List Chg} {k : Nat} (h : k + 1 < xs.length) (hl : ¬ xs[k].key < xs[k + 1].key) : ¬ RiseC xs := fun hr =>
  hl (List.pairwise_iff_getElem.1 hr k (k + 1) (by omega) h (by omega))
theorem crise_end {xs : List Chg} (hr : RiseC (xs.take xs.length)) : RiseC xs := by rwa [List.take_of_length_le (Nat.le_refl _)] at hr
theorem crise_one {xs : List Chg} : RiseC (xs.take (0 + 1)) := by
  cases xs with
  | nil => exact crise_nil
  | cons x r => simp [RiseC]

set_option maxRecDepth 100000 in
theorem rising_any6 (v : Value) (xs : List Chg) (w : World) (h1 : Crow w v xs) :
    Calls Tryz.prog 95 #[v] w fun e w' => e = .returned (.bool (decide (RiseC xs))) ∧ ∃ q, w' = w.drewN q := by
  have hl1 := h1.len
  obtain ⟨a1, cap1, rfl⟩ := h1.shape
  by_cases h0 : 0 < xs.length
  · obtain ⟨b1, o1, rfl, -, -, -, -, hat1⟩ := Crow.opn h1 h0
    clear h1
    have H1 := Lib.hid hat1
    clear hat1
    go_enter Tryz.func95, Tryz.ntmps95
    go_wp2
    go_loopw [3] (fun i wr => ∃ k q : Nat, k + 1 ≤ xs.length ∧ i = .int .i64 ((k : Int) + 1) ∧ wr = w.drewN q ∧ Hid (RiseC (xs.take (k + 1)))) (fun i _ => xs.length - (intOf i).toNat)
    case atStart => exact ⟨0, 0, h0, rfl, rfl, Lib.hid crise_one⟩
    case round =>
      obtain ⟨k, q, hk, rfl, rfl, HP⟩ := hrel
      by_cases hlt : k + 1 < xs.length
      · obtain ⟨c0, -, -, -, -, -⟩ := H1.out k (by omega)
        obtain ⟨d0, -, -, -, -, -⟩ := H1.out (k + 1) hlt
        have hS := fun h => crise_step hlt HP.out h
        have hB := fun h => crise_bad hlt h
        generalize xs[k].key = x at *
        generalize xs[k + 1].key = y at *
        by_cases hxy : x < y
        · have HS := Lib.hid (hS hxy)
          have e1 : decide (y ≤ x) = false := by rw [decide_eq_false_iff_not]; omega
          clear hS hB hxy
          go_wp2
          go_quiet (fail)
          go_wp2
          go_roundw
          case rel => exact ⟨k + 1, q + nq, by omega, by go_num, by simp, HS⟩
          case measure => simp [intOf]; omega
        · have HS := Lib.hid (hB hxy)
          have e1 : decide (y ≤ x) = true := by rw [decide_eq_true_iff]; omega
          clear hS hB hxy
          go_wp2
          go_quiet (fail)
          go_wp2
          go_ret
          exact ⟨dec_no HS.out, q + nq, by simp⟩
      · have hkk : xs.length = k + 1 := by omega
        have HE := Lib.hid (crise_end (by rw [hkk]; exact HP.out))
        clear HP
        go_wp2
        go_ret
        exact ⟨dec_yes HE.out, _, rfl⟩
  · obtain rfl : xs = [] := List.eq_nil_of_length_eq_zero (by omega)
    clear h1 h0 hl1
    go_enter Tryz.func95, Tryz.ntmps95
    go_wp2
    refine wp_loop_rounds 1 ?_
    rw [rounds_succ]
    go_wp2
    go_ret
    exact ⟨rfl, 0, rfl⟩
theorem own6_nil (w0 w : World) : Own6 w0 w (.slice none 0 0) [] := World.ownsRow_nil _ _ _ _
theorem cnil_eql (a : Option Addr) (l c : Nat) (w : World) : (binOp .eql 54 (.slice a l c) (.slice none 0 0)).run Tryz.prog w = .ok (.bool a.isNone) w := by
  simp only [binOp, Sem.run_bind, run_equal_slice_nil w 54 63 a l c Tryz.underlying54, Result.andThen_ok, Sem.run_pure]

set_option maxRecDepth 100000 in
theorem clone_any6 (v : Value) (xs : List Chg) (w : World) (hv : Crow w v xs) (hl : xs.length * 56 ≤ 140737488355328) :
    Calls Tryz.prog 115 #[v] w fun e w' => ∃ u, e = .returned u ∧ Own6 w w' u xs ∧ Below w.heap.size w w' := by
  obtain ⟨i0, hi, hz0, hz1, hz2⟩ := info_ch
  have HV := Lib.hid hv
  have hnil := fun a l c w => cnil_eql a l c w
  obtain ⟨a, cap, rfl⟩ := hv.shape
  cases a with
  | none =>
    obtain ⟨rfl, rfl⟩ : xs = [] ∧ cap = 0 := by
      rcases hv with ⟨_, _, h, hx, _, h0⟩ | ⟨_, _, _, h, _⟩
      · injection h with h1 _ h3; subst hx; exact ⟨rfl, by rw [h3]; exact h0 h1.symm⟩
      · injection h with h1; cases h1
    clear hv HV
    go_enter Tryz.func115, Tryz.ntmps115
    go_wp2
    go_ret
    exact ⟨_, rfl, own6_nil _ _, Below.refl _ _⟩
  | some a =>
    clear hv
    have hB := (Below.refl w.heap.size w).alloc (Nat.le_refl _) (.cells #[] 63)
    go_enter Tryz.func115, Tryz.ntmps115
    go_wp2_with (at_builtin; refine wpList_append_row (C := chC) rfl (.tmp 5) (.tmp 6) 54 rfl w.heap.size 63 i0 (cv noChg) 56 Tryz.underlying54 hi hz0 hz1 hz2 rfl _ 0 [] rfl (owns_none w 63 6) _ xs rfl (HV.out.below hB (Nat.le_refl _)) (by unfold maxLen; omega) (by omega) (by simp) ?_; intro v3 w3 hown3 hgrow3)
    go_ret
    refine ⟨_, rfl, ?_, hB.grown hgrow3 (by simp) (fun j hj => own_base (owns_none w 63 6) hj)⟩
    have h : w3.ownsRow w.heap.size 63 chC.m v3 (0 + xs.length) ([] ++ fl chC xs) := hown3
    rw [Nat.zero_add, List.nil_append] at h
    exact h

end Go.Proofs.YtohgopibimgjfaaGreat

/- C8: wellFormed -/
namespace Go.Proofs.YtohgopibimgjfaaGreat
open Go.RowKit
set_option linter.unusedVariables false

theorem vneq (k n f k' n' f' : Int) (s s' : ByteArray) (w : World) :
    (binOp .neq 59 (val k n f s) (val k' n' f' s')).run Tryz.prog w = .ok (.bool (!((k == k') && (n == n') && (f == f') && (s.toList == s'.toList)))) w := by
  have h := val_eql k n f k' n' f' s s' w
  rw [run_eql_struct] at h
  rw [run_neq_struct]
  revert h
  generalize (Op.equalIn 10000 59 (val k n f s) (val k' n' f' s')).run Tryz.prog w = r
  cases r <;> intro h <;> simp [Result.andThen] at h ⊢
  obtain ⟨h1, h2⟩ := h
  simp [h1, h2]
/-- Is a change's value zero? -/
def zv (c : Chg) : Bool := (c.k == 0) && (c.n == 0) && (c.f == 0) && (c.s.toList == (⟨#[]⟩ : ByteArray).toList)
def gOk (c : Chg) : Bool := !c.g || zv c
def wf6 (xs : List Chg) : Bool := decide (RiseC xs) && decide (xs.length ≤ 64) && xs.all gOk
theorem gok_step {xs : List Chg} {k : Nat} (h : k < xs.length) (hp : (xs.take k).all gOk = true) (hx : gOk xs[k] = true) : (xs.take (k + 1)).all gOk = true := by rw [tsnoc h, List.all_append, hp]; simpa using hx
theorem gok_bad {xs : List Chg} {k : Nat} (h : k < xs.length) (hx : gOk xs[k] = false) : xs.all gOk = false := by rw [List.all_eq_false]; exact ⟨_, List.getElem_mem h, by rw [hx]; exact Bool.false_ne_true⟩
theorem wf6_badV {xs : List Chg} (h : xs.all gOk = false) : wf6 xs = false := by unfold wf6; rw [h, Bool.and_false]
theorem wf6_badR {xs : List Chg} (h : ¬ RiseC xs) : wf6 xs = false := by unfold wf6; rw [decide_eq_false h]; rfl
theorem wf6_badL {xs : List Chg} (h : 64 < xs.length) : wf6 xs = false := by unfold wf6; rw [show decide (xs.length ≤ 64) = false by rw [decide_eq_false_iff_not]; omega]; simp
theorem wf6_good {xs : List Chg} (h1 : RiseC xs) (h2 : xs.length ≤ 64) (h3 : xs.all gOk = true) : wf6 xs = true := by unfold wf6; rw [decide_eq_true h1, decide_eq_true h2, h3]; rfl
theorem wf6_parts {xs : List Chg} (h : wf6 xs = true) : RiseC xs ∧ xs.length ≤ 64 ∧ xs.all gOk = true := by unfold wf6 at h; simpa [and_assoc] using h
theorem crise_zero {xs : List Chg} : RiseC (xs.take 0) := by simp [RiseC]

set_option maxRecDepth 100000 in
set_option maxHeartbeats 1000000 in
theorem wf6_any (v : Value) (xs : List Chg) (w : World) (hv : Crow w v xs) :
    Calls Tryz.prog 116 #[v] w fun e w' => e = .returned (.bool (wf6 xs)) ∧ Below w.heap.size w w' := by
  have hl := hv.len
  obtain ⟨a1, cap1, rfl⟩ := hv.shape
  by_cases hlong : 64 < xs.length
  · have HN := Lib.hid (wf6_badL hlong)
    have d1 : decide ((64 : Int) < (xs.length : Int)) = true := by rw [decide_eq_true_iff]; omega
    clear hv hlong
    go_enter Tryz.func116, Tryz.ntmps116
    go_wp2
    go_ret
    exact ⟨by rw [HN.out]; rfl, Below.refl _ _⟩
  have d1 : decide ((64 : Int) < (xs.length : Int)) = false := by rw [decide_eq_false_iff_not]; omega
  by_cases h0 : 0 < xs.length
  · obtain ⟨b1, o1, rfl, -, -, -, hbl, hat⟩ := Crow.opn hv h0
    have HAT := Lib.hid hat
    have HLG := Lib.hid (show xs.length ≤ 64 by omega)
    clear hv hat hlong
    go_enter Tryz.func116, Tryz.ntmps116
    go_wp2
    go_loopw [10] (fun s10 wr => ∃ k : Nat, k ≤ xs.length ∧ s10 = .int .i64 k ∧ Hid (RiseC (xs.take k) ∧ (xs.take k).all gOk = true) ∧ Below w.heap.size w wr) (fun s10 _ => xs.length - (intOf s10).toNat)
    case atStart => exact ⟨0, Nat.zero_le _, rfl, Lib.hid ⟨crise_zero, rfl⟩, Below.refl _ _⟩
    case round =>
      obtain ⟨k, hk, rfl, HP, hb⟩ := hrel
      by_cases hlt : k < xs.length
      · obtain ⟨c0, c1, c2, c3, c4, c5⟩ := (HAT.out k hlt).below hb hbl
        have hsz := hb.size
        have hVS := fun h => gok_step hlt HP.out.2 h
        have hVB := fun h => wf6_badV (gok_bad hlt h)
        have hNQ := fun w => vneq xs[k].k xs[k].n xs[k].f 0 0 0 xs[k].s ⟨#[]⟩ w
        have hZ : zv xs[k] = ((xs[k].k == 0) && (xs[k].n == 0) && (xs[k].f == 0) && (xs[k].s.toList == (⟨#[]⟩ : ByteArray).toList)) := rfl
        have hG : gOk xs[k] = (!xs[k].g || zv xs[k]) := rfl
        rw [← hZ] at hNQ
        cases k with
        | zero =>
          have HR1 := Lib.hid (show RiseC (xs.take (0 + 1)) from crise_one)
          rw [hG] at hVS hVB
          generalize zv xs[0] = z at *
          generalize xs[0] = x at *
          clear hG hZ
          obtain ⟨x1, x0, x2, x3, x4, x5⟩ := x
          simp only at c0 c1 c2 c3 c4 c5 hVS hVB hNQ
          simp only [Nat.zero_mul, Nat.add_zero] at c0 c1 c2 c3 c4 c5
          have hbx := CBox.box ⟨x1, x0, x2, x3, x4, x5⟩ wr 63
          obtain ⟨g0, g1, g2, g3, g4, g5⟩ := hbx
          have HB := Lib.hid (hb.alloc hb.size (.cells (cca ⟨x1, x0, x2, x3, x4, x5⟩) 63))
          clear hb
          cases x0
          · have HVS := Lib.hid (hVS rfl)
            clear hVS hVB
            go_wp2
            go_quiet (fail)
            go_wp2
            go_roundw
            case rel => exact ⟨0 + 1, by omega, by go_num, Lib.hid ⟨HR1.out, HVS.out⟩, blw_drewN HB.out _⟩
            case measure => simp [intOf]; omega
          · cases z
            · have HVB := Lib.hid (hVB rfl)
              clear hVS hVB
              go_wp2
              go_quiet (fail)
              go_wp2
              go_ret
              exact ⟨by rw [HVB.out]; rfl, blw_drewN HB.out _⟩
            · have HVS := Lib.hid (hVS rfl)
              clear hVS hVB
              go_wp2
              go_quiet (fail)
              go_wp2
              go_roundw
              case rel => exact ⟨0 + 1, by omega, by go_num, Lib.hid ⟨HR1.out, HVS.out⟩, blw_drewN HB.out _⟩
              case measure => simp [intOf]; omega
        | succ j =>
          have hjl : j < xs.length := by omega
          have hRS := fun h => crise_step hlt HP.out.1 h
          have hRB := fun h => wf6_badR (crise_bad hlt h)
          have hj1 : ((j + 1 : Nat) : Int) = (j : Int) + 1 := by omega
          have hwr : IntKind.i64.wrap (j : Int) = (j : Int) := by have := HLG.out; rw [IntKind.wrap_i64]; omega
          obtain ⟨p0, -, -, -, -, -⟩ := ((HAT.out j hjl).below hb hbl).below ((Below.refl _ _).alloc (Nat.le_refl _) (.cells (cca xs[j + 1]) 63)) (by omega : b1 < wr.heap.size)
          rw [hG] at hVS hVB
          generalize zv xs[j + 1] = z at *
          generalize xs[j + 1] = x at *
          generalize xs[j].key = y at *
          clear hG hZ
          rw [hj1]
          obtain ⟨x1, x0, x2, x3, x4, x5⟩ := x
          simp only at c0 c1 c2 c3 c4 c5 hVS hVB hNQ hRS hRB p0
          have hbx := CBox.box ⟨x1, x0, x2, x3, x4, x5⟩ wr 63
          obtain ⟨g0, g1, g2, g3, g4, g5⟩ := hbx
          have HB := Lib.hid (hb.alloc hb.size (.cells (cca ⟨x1, x0, x2, x3, x4, x5⟩) 63))
          clear hb
          by_cases hle : x1 ≤ y
          · have e1 : decide (x1 ≤ y) = true := by simpa using hle
            have HVB := Lib.hid (hRB (by omega))
            clear hVS hVB hRS hRB hle
            go_wp2
            go_quiet (fail)
            go_wp2
            go_ret
            exact ⟨by rw [HVB.out]; rfl, blw_drewN HB.out _⟩
          · have e1 : decide (x1 ≤ y) = false := by simpa using hle
            have HRS := Lib.hid (hRS (by omega))
            clear hRS hRB hle
            cases x0
            · have HVS := Lib.hid (hVS rfl)
              clear hVS hVB
              go_wp2
              go_quiet (fail)
              go_wp2
              go_roundw
              case rel => exact ⟨j + 1 + 1, by omega, by go_num, Lib.hid ⟨HRS.out, HVS.out⟩, blw_drewN HB.out _⟩
              case measure => simp [intOf]; omega
            · cases z
              · have HVB := Lib.hid (hVB rfl)
                clear hVS hVB
                go_wp2
                go_quiet (fail)
                go_wp2
                go_ret
                exact ⟨by rw [HVB.out]; rfl, blw_drewN HB.out _⟩
              · have HVS := Lib.hid (hVS rfl)
                clear hVS hVB
                go_wp2
                go_quiet (fail)
                go_wp2
                go_roundw
                case rel => exact ⟨j + 1 + 1, by omega, by go_num, Lib.hid ⟨HRS.out, HVS.out⟩, blw_drewN HB.out _⟩
                case measure => simp [intOf]; omega
      · obtain rfl : k = xs.length := by omega
        have HB := Lib.hid hb
        have hp := HP.out
        rw [tend] at hp
        have HG := Lib.hid (wf6_good hp.1 HLG.out hp.2)
        clear hb hp
        go_wp2
        go_ret
        exact ⟨by rw [HG.out]; rfl, HB.out⟩
  · obtain rfl : xs = [] := List.eq_nil_of_length_eq_zero (by omega)
    clear hv h0 hl hlong
    go_enter Tryz.func116, Tryz.ntmps116
    go_wp2
    refine wp_loop_rounds 1 ?_
    rw [rounds_succ]
    go_wp2
    go_ret
    exact ⟨rfl, Below.refl _ _⟩
end Go.Proofs.YtohgopibimgjfaaGreat

/- C9: May, the reference's Find -/
namespace Go.Proofs.YtohgopibimgjfaaGreat
open Go.RowKit
set_option linter.unusedVariables false

/-- Is each key one of the schema's? -/
def isIn (ks : List Key) (c : Chg) : Bool := (fnd ks c.key).isSome
def may6 (ks : List Key) (xs : List Chg) : Int := if wf6 xs && okV (ats xs) then (if okF5 ks (ats xs) && xs.all (isIn ks) then 0 else 4) else 3
theorem may6_bad {ks : List Key} {xs : List Chg} (h : wf6 xs = false) : may6 ks xs = 3 := by unfold may6; rw [h]; rfl
theorem may6_out {ks : List Key} {xs : List Chg} (h : wf6 xs = true) (hv : okV (ats xs) = true) (hf : okF5 ks (ats xs) = true) (hi : xs.all (isIn ks) = false) : may6 ks xs = 4 := by unfold may6; rw [h, hv, hf, hi]; rfl
theorem may6_ok {ks : List Key} {xs : List Chg} (h : wf6 xs = true) (hv : okV (ats xs) = true) (hf : okF5 ks (ats xs) = true) (hi : xs.all (isIn ks) = true) : may6 ks xs = 0 := by unfold may6; rw [h, hv, hf, hi]; rfl
theorem ats_sub {xs : List Chg} : ∀ a ∈ ats xs, ∃ c ∈ xs, c.g = false ∧ a = toA c := by
  intro a ha
  obtain ⟨c, hc, rfl⟩ := List.mem_map.1 ha
  obtain ⟨h1, h2⟩ := List.mem_filter.1 hc
  exact ⟨c, h1, by simpa using h2, rfl⟩
theorem ats_rise {xs : List Chg} (h : RiseC xs) : Rise (ats xs) := by
  unfold ats Rise
  rw [List.pairwise_map]
  exact (h.sublist List.filter_sublist)
theorem ats_w {xs : List Chg} (h : ∀ c ∈ xs, ChgW c) : ∀ a ∈ ats xs, AttW a := by
  intro a ha
  obtain ⟨c, hc, -, rfl⟩ := ats_sub a ha
  have := h c hc
  exact ⟨this.key, this.k, this.n, this.f, this.s⟩
/-- What layer 5 tells of the part that is not gone. -/
theorem may5_ats {ks : List Key} {xs : List Chg} (h : wf6 xs = true) : may5 ks (ats xs) = if okV (ats xs) then (if okF5 ks (ats xs) then 0 else 4) else 3 := by
  obtain ⟨h1, h2, -⟩ := wf6_parts h
  have hl := ats_len xs
  unfold may5 wf5
  rw [decide_eq_true (ats_rise h1), decide_eq_true (show (ats xs).length ≤ 64 by omega)]
  simp
theorem in_step {ks : List Key} {xs : List Chg} {k : Nat} (h : k < xs.length) (hp : (xs.take k).all (isIn ks) = true) (hx : isIn ks xs[k] = true) : (xs.take (k + 1)).all (isIn ks) = true := by rw [tsnoc h, List.all_append, hp]; simpa using hx
theorem in_bad {ks : List Key} {xs : List Chg} {k : Nat} (h : k < xs.length) (hx : isIn ks xs[k] = false) : xs.all (isIn ks) = false := by rw [List.all_eq_false]; exact ⟨_, List.getElem_mem h, by rw [hx]; exact Bool.false_ne_true⟩

set_option maxRecDepth 100000 in
set_option maxHeartbeats 1000000 in
theorem may_any6 (p : Value) (ks : List Key) (v : Value) (xs : List Chg) (w : World) (hs : Sch w p ks) (hv : Crow w v xs) (hW : ∀ a ∈ xs, ChgW a) :
    Calls Tryz.prog 80 #[p, v] w fun e w' => e = .returned (.int .i64 (may6 ks xs)) ∧ Below w.heap.size w w' := by
  have hl := hv.len
  have hwf := wf6_any v xs w hv
  cases hw6 : wf6 xs
  · rw [hw6] at hwf
    have HWF := Lib.hid hwf
    have HN := Lib.hid (may6_bad (ks := ks) hw6)
    clear hv hs hW hwf hw6
    go_enter Tryz.func80, Tryz.ntmps80
    go_wp2_with (go_at_call 116; refine HWF.out.mono ?_; rintro e w1 ⟨rfl, hb1⟩)
    go_ret
    exact ⟨ret_may HN.out.symm, hb1⟩
  rw [hw6] at hwf
  have HWF := Lib.hid hwf
  have H6 := Lib.hid hw6
  have hl64 := (wf6_parts hw6).2.1
  have HA := Lib.hid (fun w1 (h : Below w.heap.size w w1) => attributes_any v xs w1 (hv.below h (Nat.le_refl _)) (by omega))
  have hm := may5_ats (ks := ks) hw6
  have HM := Lib.hid (fun u w1 (h : Below w.heap.size w w1) (hu : Arow w1 u (ats xs)) => may_any5 p ks u (ats xs) w1 (hs.below h (Nat.le_refl _)) hu (ats_w hW))
  clear hwf hw6
  cases hV : okV (ats xs)
  · rw [hV] at hm
    simp only [Bool.false_eq_true, if_false] at hm
    rw [hm] at HM
    have HN := Lib.hid (show may6 ks xs = 3 by unfold may6; rw [hV, Bool.and_false]; rfl)
    clear hv hs hW hm hV
    go_enter Tryz.func80, Tryz.ntmps80
    go_wp2_with (first
      | (go_at_call 116; refine HWF.out.mono ?_; rintro e w1 ⟨rfl, hb1⟩)
      | (go_at_call 117; refine (HA.out _ hb1).mono ?_; rintro e w2 ⟨u2, rfl, ho2, hb2⟩; have hb12 := below_add hb1 hb2 hb1.size)
      | (go_at_call 82; refine (HM.out u2 _ hb12 (Own5.row ho2)).mono ?_; rintro e w3 ⟨rfl, hb3⟩))
    go_ret
    exact ⟨ret_may HN.out.symm, below_add hb12 hb3 hb12.size⟩
  cases hF : okF5 ks (ats xs)
  · rw [hV, hF] at hm
    simp only [Bool.false_eq_true, if_false, if_true] at hm
    rw [hm] at HM
    have HN := Lib.hid (show may6 ks xs = 4 by have := H6.out; unfold may6; rw [this, hV, hF]; rfl)
    clear hv hs hW hm hV hF
    go_enter Tryz.func80, Tryz.ntmps80
    go_wp2_with (first
      | (go_at_call 116; refine HWF.out.mono ?_; rintro e w1 ⟨rfl, hb1⟩)
      | (go_at_call 117; refine (HA.out _ hb1).mono ?_; rintro e w2 ⟨u2, rfl, ho2, hb2⟩; have hb12 := below_add hb1 hb2 hb1.size)
      | (go_at_call 82; refine (HM.out u2 _ hb12 (Own5.row ho2)).mono ?_; rintro e w3 ⟨rfl, hb3⟩))
    go_ret
    exact ⟨ret_may HN.out.symm, below_add hb12 hb3 hb12.size⟩
  rw [hV, hF] at hm
  simp only [if_true] at hm
  rw [hm] at HM
  have H6 := Lib.hid (⟨H6.out, hV, hF⟩ : wf6 xs = true ∧ okV (ats xs) = true ∧ okF5 ks (ats xs) = true)
  clear hm hV hF
  obtain ⟨a1, cap1, rfl⟩ := hv.shape
  by_cases h0 : 0 < xs.length
  · obtain ⟨b1, o1, rfl, -, -, -, hbl, hat⟩ := Crow.opn hv h0
    have HAT := Lib.hid hat
    have HWA := Lib.hid hW
    have HS := Lib.hid hs
    clear hv hat hW hs
    go_enter Tryz.func80, Tryz.ntmps80
    go_wp2_with (first
      | (go_at_call 116; refine HWF.out.mono ?_; rintro e w1 ⟨rfl, hb1⟩)
      | (go_at_call 117; refine (HA.out _ hb1).mono ?_; rintro e w2 ⟨u2, rfl, ho2, hb2⟩; have hb12 := below_add hb1 hb2 hb1.size)
      | (go_at_call 82; refine (HM.out u2 _ hb12 (Own5.row ho2)).mono ?_; rintro e w3 ⟨rfl, hb3⟩))
    have HB3 := Lib.hid (below_add hb12 hb3 hb12.size)
    clear hb1 hb12 hb3 ho2 hb2
    go_loopw [22] (fun s12 wr => ∃ k : Nat, k ≤ xs.length ∧ s12 = .int .i64 k ∧ Hid ((xs.take k).all (isIn ks) = true) ∧ Below w.heap.size w wr) (fun s12 _ => xs.length - (intOf s12).toNat)
    case atStart => exact ⟨0, Nat.zero_le _, rfl, Lib.hid rfl, HB3.out⟩
    case round =>
      obtain ⟨k, hk, rfl, HP, hb⟩ := hrel
      by_cases hlt : k < xs.length
      · obtain ⟨c0, c1, c2, c3, c4, c5⟩ := (HAT.out k hlt).below hb hbl
        have hw := (HWA.out _ (List.getElem_mem hlt)).key
        have HF := Lib.hid (fun w1 (h1 : Below w.heap.size w w1) => find_any p ks xs[k].key w1 (HS.out.below h1 (Nat.le_refl _)) hw)
        have hFS := fun h => in_step (ks := ks) hlt HP.out h
        have hFB := fun h => may6_out H6.out.1 H6.out.2.1 H6.out.2.2 (in_bad (ks := ks) hlt h)
        have hIN : isIn ks xs[k] = (fnd ks xs[k].key).isSome := rfl
        rw [hIN] at hFS hFB
        clear hw hIN
        generalize xs[k] = x at *
        obtain ⟨x1, x0, x2, x3, x4, x5⟩ := x
        simp only at c0 c1 c2 c3 c4 c5 HF hFS hFB
        have hB1 := hb.alloc hb.size (.cells (cca ⟨x1, x0, x2, x3, x4, x5⟩) 63)
        have HFX := Lib.hid (HF.out _ hB1)
        have HB := Lib.hid hB1
        clear HF hB1 hb
        cases hf : fnd ks x1 with
        | none =>
          have h3 := HFX.out
          rw [fndV_none hf] at h3
          have HF3 := Lib.hid h3
          have HN := Lib.hid (hFB (by rw [hf]; rfl))
          clear hFS hFB h3 HFX hf
          go_wp2_with (go_at_call 118; refine HF3.out.mono ?_; rintro e w2 ⟨rfl, hb2⟩)
          have hb9 := below_add HB.out hb2 HB.out.size
          go_ret
          exact ⟨ret_may HN.out.symm, hb9.alloc hb9.size _⟩
        | some key =>
          have h3 := HFX.out
          rw [fndV_some hf] at h3
          have HF3 := Lib.hid h3
          have HN := Lib.hid (hFS (by rw [hf]; rfl))
          clear hFS hFB h3 HFX hf
          obtain ⟨y1, y2, y3, y4, y5, y6⟩ := key
          go_wp2_with (go_at_call 118; refine HF3.out.mono ?_; rintro e w2 ⟨rfl, hb2⟩)
          have hb9 := below_add HB.out hb2 HB.out.size
          have HB9 := Lib.hid (hb9.alloc hb9.size (.cells (kca ⟨y1, y2, y3, y4, y5, y6⟩) 49))
          clear hb9 hb2
          go_roundw
          case rel => exact ⟨k + 1, by omega, by go_num, HN, HB9.out⟩
          case measure => simp [intOf]; omega
      · obtain rfl : k = xs.length := by omega
        have HB := Lib.hid hb
        have hp := HP.out
        rw [tend] at hp
        have HG := Lib.hid (may6_ok H6.out.1 H6.out.2.1 H6.out.2.2 hp)
        clear hb hp
        go_wp2
        go_ret
        exact ⟨ret_may HG.out.symm, HB.out⟩
  · obtain rfl : xs = [] := List.eq_nil_of_length_eq_zero (by omega)
    have HG := Lib.hid (may6_ok H6.out.1 H6.out.2.1 H6.out.2.2 (show ([] : List Chg).all (isIn ks) = true from rfl))
    clear hv h0 hl hW hs H6
    go_enter Tryz.func80, Tryz.ntmps80
    go_wp2_with (first
      | (go_at_call 116; refine HWF.out.mono ?_; rintro e w1 ⟨rfl, hb1⟩)
      | (go_at_call 117; refine (HA.out _ hb1).mono ?_; rintro e w2 ⟨u2, rfl, ho2, hb2⟩; have hb12 := below_add hb1 hb2 hb1.size)
      | (go_at_call 82; refine (HM.out u2 _ hb12 (Own5.row ho2)).mono ?_; rintro e w3 ⟨rfl, hb3⟩))
    refine wp_loop_rounds 1 ?_
    rw [rounds_succ]
    go_wp2
    go_ret
    exact ⟨ret_may HG.out.symm, below_add hb12 hb3 hb12.size⟩
end Go.Proofs.YtohgopibimgjfaaGreat

/- C11: the reference's May -/
namespace Go.Proofs.YtohgopibimgjfaaGreat
open Go.RowKit
set_option linter.unusedVariables false

def rOk (c : Chg) : Bool := if c.g then zv c else vmay c.k c.n c.f c.s
def rFit (ks : List Key) (c : Chg) : Bool := isIn ks c && (c.g || fitsB ks c.key c.k c.n c.f c.s)
theorem rok_all (xs : List Chg) : xs.all rOk = (xs.all gOk && okV (ats xs)) := by
  induction xs with
  | nil => rfl
  | cons x r ih =>
    have e : ats (x :: r) = if x.g then ats r else toA x :: ats r := by unfold ats; cases h : x.g <;> simp [h]
    rw [e, List.all_cons, ih]
    unfold rOk gOk okV
    cases h : x.g <;> simp [h, Bool.and_left_comm, Bool.and_assoc]
theorem fits_isIn {ks : List Key} {c : Chg} (h : fitsB ks c.key c.k c.n c.f c.s = true) : isIn ks c = true := by
  unfold isIn
  cases hf : fnd ks c.key with
  | none => rw [fitsB_none hf] at h; cases h
  | some k => rfl
theorem rfit_all (ks : List Key) (xs : List Chg) : xs.all (rFit ks) = (okF5 ks (ats xs) && xs.all (isIn ks)) := by
  induction xs with
  | nil => rfl
  | cons x r ih =>
    have e : ats (x :: r) = if x.g then ats r else toA x :: ats r := by unfold ats; cases h : x.g <;> simp [h]
    rw [e, List.all_cons, ih]
    unfold rFit okF5
    cases h : x.g
    · cases hf : fitsB ks x.key x.k x.n x.f x.s
      · simp [hf]
      · simp [hf, fits_isIn hf]
    · simp [Bool.and_left_comm]
theorem may6_bad2 {ks : List Key} {xs : List Chg} (h : xs.all rOk = false) : may6 ks xs = 3 := by
  rw [rok_all] at h
  unfold may6 wf6
  cases h1 : xs.all gOk
  · simp
  · rw [h1, Bool.true_and] at h; simp [h]
theorem may6_rest {ks : List Key} {xs : List Chg} (h1 : RiseC xs) (h2 : xs.length ≤ 64) (h3 : xs.all rOk = true) : may6 ks xs = if xs.all (rFit ks) then 0 else 4 := by
  rw [rok_all, Bool.and_eq_true] at h3
  unfold may6
  rw [wf6_good h1 h2 h3.1, h3.2, rfit_all]
  rfl
theorem rok_step {xs : List Chg} {k : Nat} (h : k < xs.length) (hp : (xs.take k).all rOk = true) (hx : rOk xs[k] = true) : (xs.take (k + 1)).all rOk = true := by rw [tsnoc h, List.all_append, hp]; simpa using hx
theorem rok_bad {xs : List Chg} {k : Nat} (h : k < xs.length) (hx : rOk xs[k] = false) : xs.all rOk = false := by rw [List.all_eq_false]; exact ⟨_, List.getElem_mem h, by rw [hx]; exact Bool.false_ne_true⟩
theorem rfit_step {ks : List Key} {xs : List Chg} {k : Nat} (h : k < xs.length) (hp : (xs.take k).all (rFit ks) = true) (hx : rFit ks xs[k] = true) : (xs.take (k + 1)).all (rFit ks) = true := by rw [tsnoc h, List.all_append, hp]; simpa using hx
theorem rfit_bad {ks : List Key} {xs : List Chg} {k : Nat} (h : k < xs.length) (hx : rFit ks xs[k] = false) : xs.all (rFit ks) = false := by rw [List.all_eq_false]; exact ⟨_, List.getElem_mem h, by rw [hx]; exact Bool.false_ne_true⟩

/-- The worlds of the reference's test. -/
def CtC (b o : Nat) (x : Chg) (W W' : World) : Prop := CAt b o x W' ∧ Below W.heap.size W W'
theorem CtC.below {b o : Nat} {x : Chg} {W w w' : World} (h : CtC b o x W w) (hb : Below w.heap.size w w') : CtC b o x W w' :=
  ⟨h.1.below hb h.1.lt, below_add h.2 hb h.2.size⟩

set_option maxRecDepth 100000 in
set_option maxHeartbeats 2000000 in
theorem rmay_any6 (p : Value) (ks : List Key) (v : Value) (xs : List Chg) (w : World) (hs : Krow w p ks) (hv : Crow w v xs) (hW : ∀ a ∈ xs, ChgW a) (hS : xs.length ≤ 64 → ∀ a ∈ xs, a.s.size ≤ 50000000) :
    Calls Tryz.prog 55 #[p, v] w fun e w' => e = .returned (.int .i64 (may6 ks xs)) ∧ Below w.heap.size w w' := by
  have hl := hv.len
  have hri := rising_any6 v xs w hv
  by_cases hr : RiseC xs
  · rw [decide_eq_true hr] at hri
    have HRI := Lib.hid hri
    clear hri
    by_cases hlong : 64 < xs.length
    · have HN := Lib.hid (may6_bad (ks := ks) (wf6_badL hlong))
      have d1 : decide ((64 : Int) < (xs.length : Int)) = true := by rw [decide_eq_true_iff]; omega
      obtain ⟨a1, cap1, rfl⟩ := hv.shape
      clear hv hs hW hS hr hlong
      go_enter Tryz.func55, Tryz.ntmps55
      go_wp2_with (go_at_call 95; refine HRI.out.mono ?_; rintro e w1 ⟨rfl, q, rfl⟩)
      go_ret
      exact ⟨ret_may HN.out.symm, blw_drewN (Below.refl _ _) q⟩
    have d1 : decide ((64 : Int) < (xs.length : Int)) = false := by rw [decide_eq_false_iff_not]; omega
    have HRL := Lib.hid (show RiseC xs ∧ xs.length ≤ 64 from ⟨hr, by omega⟩)
    have hS := hS (by omega)
    clear hr hlong
    obtain ⟨a1, cap1, rfl⟩ := hv.shape
    by_cases h0 : 0 < xs.length
    · obtain ⟨b1, o1, rfl, -, -, -, hbl, hat⟩ := Crow.opn hv h0
      have HAT := Lib.hid hat
      have HWA := Lib.hid hW
      have HSZ := Lib.hid hS
      have HS := Lib.hid hs
      clear hv hat hW hs hS
      go_enter Tryz.func55, Tryz.ntmps55
      go_wp2_with (go_at_call 95; refine HRI.out.mono ?_; rintro e w1 ⟨rfl, q, rfl⟩)
      go_loopw [5] (fun s5 wr => ∃ k : Nat, k ≤ xs.length ∧ s5 = .int .i64 k ∧ Hid ((xs.take k).all rOk = true) ∧ Below w.heap.size w wr) (fun s5 _ => xs.length - (intOf s5).toNat)
      case atStart => exact ⟨0, Nat.zero_le _, rfl, Lib.hid rfl, blw_drewN (Below.refl _ _) q⟩
      case round =>
        obtain ⟨k, hk, rfl, HP, hb⟩ := hrel
        by_cases hlt : k < xs.length
        · obtain ⟨c0, c1, c2, c3, c4, c5⟩ := (HAT.out k hlt).below hb hbl
          have hw := HWA.out _ (List.getElem_mem hlt)
          have hz := HSZ.out _ (List.getElem_mem hlt)
          have HM := Lib.hid (rvmay_any xs[k].k xs[k].n xs[k].f xs[k].s wr hw.f0 hw.f1 hz)
          have hNQ := fun w => vneq xs[k].k xs[k].n xs[k].f 0 0 0 xs[k].s ⟨#[]⟩ w
          have hZ : zv xs[k] = ((xs[k].k == 0) && (xs[k].n == 0) && (xs[k].f == 0) && (xs[k].s.toList == (⟨#[]⟩ : ByteArray).toList)) := rfl
          have hG : rOk xs[k] = if xs[k].g then zv xs[k] else vmay xs[k].k xs[k].n xs[k].f xs[k].s := rfl
          rw [← hZ] at hNQ
          have hVS := fun h => rok_step hlt HP.out h
          have hVB := fun h => may6_bad2 (ks := ks) (rok_bad hlt h)
          rw [hG] at hVS hVB
          have HB := Lib.hid hb
          clear hw hz hb hG hZ
          generalize zv xs[k] = z at *
          generalize xs[k] = x at *
          obtain ⟨x1, x0, x2, x3, x4, x5⟩ := x
          simp only at c0 c1 c2 c3 c4 c5 HM hVS hVB hNQ
          generalize vmay x2 x3 x4 x5 = m at *
          cases x0
          · clear hNQ
            cases m
            · have HN := Lib.hid (hVB rfl)
              clear hVS hVB
              go_wp2_with (go_at_call 93; refine HM.out.mono ?_; rintro e w2 ⟨rfl, hb2⟩)
              go_ret
              exact ⟨ret_may HN.out.symm, below_add HB.out hb2 HB.out.size⟩
            · have HN := Lib.hid (hVS rfl)
              clear hVS hVB
              go_wp2_with (go_at_call 93; refine HM.out.mono ?_; rintro e w2 ⟨rfl, hb2⟩)
              go_roundw
              case rel => exact ⟨k + 1, by omega, by go_num, HN, below_add HB.out hb2 HB.out.size⟩
              case measure => simp [intOf]; omega
          · cases z
            · have HN := Lib.hid (hVB rfl)
              clear hVS hVB HM
              go_wp2
              go_ret
              exact ⟨ret_may HN.out.symm, HB.out⟩
            · have HN := Lib.hid (hVS rfl)
              clear hVS hVB HM
              go_wp2
              go_roundw
              case rel => exact ⟨k + 1, by omega, by go_num, HN, HB.out⟩
              case measure => simp [intOf]; omega
        · obtain rfl : k = xs.length := by omega
          have HB := Lib.hid hb
          have hp := HP.out
          rw [tend] at hp
          have H6 := Lib.hid (may6_rest (ks := ks) HRL.out.1 HRL.out.2 hp)
          clear hb hp
          go_wp2_with fail
          go_loopw [6] (fun s6 wr => ∃ k : Nat, k ≤ xs.length ∧ s6 = .int .i64 k ∧ Hid ((xs.take k).all (rFit ks) = true) ∧ Below w.heap.size w wr) (fun s6 _ => xs.length - (intOf s6).toNat)
          case atStart => exact ⟨0, Nat.zero_le _, rfl, Lib.hid rfl, HB.out⟩
          case round =>
            obtain ⟨k, hk, rfl, HP, hb⟩ := hrel
            by_cases hlt : k < xs.length
            · have hAT := (HAT.out k hlt).below hb hbl
              have hw := HWA.out _ (List.getElem_mem hlt)
              have hz := HSZ.out _ (List.getElem_mem hlt)
              have HFT := Lib.hid (fun w1 (h1 : Below w.heap.size w w1) => rfits_any p ks xs[k].key xs[k].k xs[k].n xs[k].f xs[k].s w1 (HS.out.below h1 (Nat.le_refl _)) hw.f0 hw.f1 hz)
              have HFD := Lib.hid (fun w1 (h1 : Below w.heap.size w w1) => rfind_any p ks xs[k].key w1 (HS.out.below h1 (Nat.le_refl _)))
              have hFS := fun h => rfit_step (ks := ks) hlt HP.out h
              have hFB := fun h => (by rw [H6.out, rfit_bad (ks := ks) hlt h]; rfl : may6 ks xs = 4)
              have hRF : rFit ks xs[k] = ((fnd ks xs[k].key).isSome && (xs[k].g || fitsB ks xs[k].key xs[k].k xs[k].n xs[k].f xs[k].s)) := rfl
              rw [hRF] at hFS hFB
              clear hw hz hRF
              generalize xs[k] = x at *
              have HAT2 := Lib.hid hAT
              have HBR := Lib.hid hb
              have hsz := hb.size
              obtain ⟨x1, x0, x2, x3, x4, x5⟩ := x
              simp only at HFT HFD hFS hFB
              obtain ⟨c0, c1, c2, c3, c4, c5⟩ := hAT
              simp only at c0 c1 c2 c3 c4 c5
              have h3 := HFD.out wr HBR.out
              clear HFD hb
              generalize fitsB ks x1 x2 x3 x4 x5 = m at *
              cases hf : fnd ks x1 with
              | none =>
                rw [fndV_none hf] at h3
                have HF3 := Lib.hid h3
                have HN := Lib.hid (hFB (by rw [hf]; rfl))
                clear hFS hFB h3 hf HFT
                go_wp2_with (go_at_call 96; refine HF3.out.mono ?_; rintro e w2 ⟨rfl, hb2⟩)
                have hb9 := below_add HBR.out hb2 HBR.out.size
                have HB9 := Lib.hid (hb9.alloc hb9.size (.cells (kca noKey) 49))
                have hC0 := HAT2.out.below (hb2.alloc hb2.size (.cells (kca noKey) 49)) HAT2.out.lt
                generalize hW9 : w2.alloc (.cells _ 49) = W9 at *
                clear hb9 hb2 c0 c1 c2 c3 c4 c5 hW9
                obtain ⟨c0, c1, c2, c3, c4, c5⟩ := hC0
                simp only at c0 c1 c2 c3 c4 c5
                go_quiet (fail)
                go_wp2
                go_ret
                exact ⟨ret_may HN.out.symm, blw_drewN HB9.out _⟩
              | some key =>
                rw [fndV_some hf] at h3
                have HF3 := Lib.hid h3
                rw [hf] at hFS hFB
                simp only [Option.isSome_some, Bool.true_and] at hFS hFB
                clear h3 hf
                obtain ⟨y1, y2, y3, y4, y5, y6⟩ := key
                cases x0
                · simp only [Bool.false_or] at hFS hFB
                  go_wp2_with (go_at_call 96; refine HF3.out.mono ?_; rintro e w2 ⟨rfl, hb2⟩)
                  have hb9 := below_add HBR.out hb2 HBR.out.size
                  have HB9 := Lib.hid (hb9.alloc hb9.size (.cells (kca ⟨y1, y2, y3, y4, y5, y6⟩) 49))
                  have hC0 := HAT2.out.below (hb2.alloc hb2.size (.cells (kca ⟨y1, y2, y3, y4, y5, y6⟩) 49)) HAT2.out.lt
                  generalize hW9 : w2.alloc (.cells _ 49) = W9 at *
                  clear hb9 hb2 c0 c1 c2 c3 c4 c5 hW9
                  have HC0 := Lib.hid (show CtC b1 (o1 + k * 6) ⟨x1, false, x2, x3, x4, x5⟩ W9 W9 from ⟨hC0, Below.refl _ _⟩)
                  have KF := Lib.hid (fun w9 (hS : CtC b1 (o1 + k * 6) ⟨x1, false, x2, x3, x4, x5⟩ W9 w9) => (HFT.out w9 (below_add HB9.out hS.2 HB9.out.size)).mono fun e w' (h : _ ∧ _) => (⟨h.1, hS.below h.2⟩ : _ ∧ CtC b1 (o1 + k * 6) ⟨x1, false, x2, x3, x4, x5⟩ W9 w'))
                  clear hC0 HFT
                  refine region_classw (C := CtC b1 (o1 + k * 6) ⟨x1, false, x2, x3, x4, x5⟩ W9) (by kernel_rfl) (by kernel_rfl) (HC0.out.below (Below.refl _ _).drew) ?_
                  repeat (first
                    | (refine w_skip (by rfl) (by rfl) ?_
                       simp only [Act.put, List.setIfInBounds_toArray, List.set_cons_zero, List.set_cons_succ])
                    | (first
                         | refine w_val (v := ?_) (by rfl) (fun w9 hS => ?_) ?_
                         | refine w_valg (v := ?_) (by rfl) (by rfl) (fun w9 hS => ?_) ?_
                       rotate_left
                       · obtain ⟨⟨g0, g1, g2, g3, g4, g5⟩, -⟩ := hS
                         go_simp
                         try with_reducible rfl
                       simp only [Act.put, List.setIfInBounds_toArray, List.set_cons_zero, List.set_cons_succ])
                    | (first
                         | refine w_call (by rfl) (fun w9 hS => ?_) KF.out ?_
                         | refine w_callg (by rfl) (by rfl) (fun w9 hS => ?_) KF.out ?_
                       · obtain ⟨⟨g0, g1, g2, g3, g4, g5⟩, -⟩ := hS
                         go_simp
                       simp only [Act.put, List.setIfInBounds_toArray, List.set_cons_zero, List.set_cons_succ]))
                  refine w_end ?_
                  intro w5 T5
                  cases m
                  · have HN := Lib.hid (hFB rfl)
                    clear hFS hFB
                    go_wp2_with fail
                    go_ret
                    exact ⟨ret_may HN.out.symm, below_add HB9.out T5.2 HB9.out.size⟩
                  · have HN := Lib.hid (hFS rfl)
                    have HT := Lib.hid T5.2
                    clear hFS hFB
                    go_wp2_with fail
                    go_roundw
                    case rel => exact ⟨k + 1, by omega, by go_num, HN, below_add HB9.out HT.out HB9.out.size⟩
                    case measure => simp [intOf]; omega
                · have HN := Lib.hid (hFS (by simp))
                  clear hFS hFB HFT
                  go_wp2_with (go_at_call 96; refine HF3.out.mono ?_; rintro e w2 ⟨rfl, hb2⟩)
                  have hb9 := below_add HBR.out hb2 HBR.out.size
                  have HB9 := Lib.hid (hb9.alloc hb9.size (.cells (kca ⟨y1, y2, y3, y4, y5, y6⟩) 49))
                  have hC0 := HAT2.out.below (hb2.alloc hb2.size (.cells (kca ⟨y1, y2, y3, y4, y5, y6⟩) 49)) HAT2.out.lt
                  generalize hW9 : w2.alloc (.cells _ 49) = W9 at *
                  clear hb9 hb2 c0 c1 c2 c3 c4 c5 hW9
                  obtain ⟨c0, c1, c2, c3, c4, c5⟩ := hC0
                  simp only at c0 c1 c2 c3 c4 c5
                  go_quiet (fail)
                  go_wp2
                  go_roundw
                  case rel => exact ⟨k + 1, by omega, by go_num, HN, blw_drewN HB9.out _⟩
                  case measure => simp [intOf]; omega
            · obtain rfl : k = xs.length := by omega
              have HB := Lib.hid hb
              have hp := HP.out
              rw [tend] at hp
              have HG := Lib.hid (show may6 ks xs = 0 by rw [H6.out, hp]; rfl)
              clear hb hp
              go_wp2
              go_ret
              exact ⟨ret_may HG.out.symm, HB.out⟩
    · obtain rfl : xs = [] := List.eq_nil_of_length_eq_zero (by omega)
      have HG := Lib.hid (show may6 ks [] = 0 by rw [may6_rest HRL.out.1 HRL.out.2 rfl]; rfl)
      clear hv h0 hl hW hs hS HRL
      go_enter Tryz.func55, Tryz.ntmps55
      go_wp2_with (go_at_call 95; refine HRI.out.mono ?_; rintro e w1 ⟨rfl, q, rfl⟩)
      refine wp_loop_rounds 1 ?_
      rw [rounds_succ]
      go_wp2
      refine wp_loop_rounds 1 ?_
      rw [rounds_succ]
      go_wp2
      go_ret
      exact ⟨ret_may HG.out.symm, blw_drewN (Below.refl _ _) q⟩
  · rw [decide_eq_false hr] at hri
    have HRI := Lib.hid hri
    have HN := Lib.hid (may6_bad (ks := ks) (wf6_badR hr))
    obtain ⟨a1, cap1, rfl⟩ := hv.shape
    clear hri hv hs hW hS hr
    go_enter Tryz.func55, Tryz.ntmps55
    go_wp2_with (go_at_call 95; refine HRI.out.mono ?_; rintro e w1 ⟨rfl, q, rfl⟩)
    go_ret
    exact ⟨ret_may HN.out.symm, blw_drewN (Below.refl _ _) q⟩
end Go.Proofs.YtohgopibimgjfaaGreat

/- C12: great -/
namespace Go.Proofs.YtohgopibimgjfaaGreat
open Go.RowKit
set_option linter.unusedVariables false

/-- How much there is. -/
def sizeC (p : List Chg) : Nat := (p.map fun c => c.s.size).sum
def sizeA (a : List Att) : Nat := (a.map fun c => c.s.size).sum
def totC (p : List Chg) : Nat := p.length + sizeC p
def totA (a : List Att) : Nat := a.length + sizeA a
end Go.Proofs.YtohgopibimgjfaaGreat

/- A18: attributes, and slices of them, that came in -/
namespace Go.Proofs.YtohgopibimgjfaaGreat
open Go.RowKit Go.ChangeShapes Go.WideShapes Go.Deep
set_option linter.unusedVariables false

section
variable {H : Type} {enc : TypeId × Value → H} {w : World} {base : Nat} {spare : Nat → Bool} {held : Bool}

theorem att_fields : Tryz.prog.underlying 61 = some (.struct (Tryz.prog.fieldsOf 61)) := by kernel_rfl
theorem att_cells : Tryz.prog.cellsOf 61 = 5 := by kernel_rfl
theorem att_types : (Tryz.prog.fieldsOf 61).map (fun f => (f.type, f.offset)) = #[(3, 0), (59, 1)] := by kernel_rfl
theorem att_size : (Tryz.prog.fieldsOf 61).size = 2 := by kernel_rfl
theorem int_cells5 : Tryz.prog.cellsOf 3 = 1 := by kernel_rfl
theorem value_cells5 : Tryz.prog.cellsOf 59 = 4 := by kernel_rfl
theorem value_fields5 : Tryz.prog.underlying 59 = some (.struct (Tryz.prog.fieldsOf 59)) := by kernel_rfl
theorem value_one5 : oneCellFields Tryz.prog (Tryz.prog.fieldsOf 59) = true := by kernel_rfl
theorem value_types5 : (Tryz.prog.fieldsOf 59).map (·.type) = #[5, 2, 57, 9] := by kernel_rfl
theorem value_size5 : (Tryz.prog.fieldsOf 59).size = 4 := by kernel_rfl

end
end Go.Proofs.YtohgopibimgjfaaGreat

/- C14: changes and attributes that came in, and what they weigh -/
namespace Go.Proofs.YtohgopibimgjfaaGreat
open Go.RowKit Go.ChangeShapes Go.WideShapes Go.Deep
set_option linter.unusedVariables false

section
variable {H : Type} {enc : TypeId × Value → H} {w : World} {base : Nat} {spare : Nat → Bool} {held : Bool}

/-- The datum of a change, of an attribute. -/
def vD (k n f : Int) (s : ByteArray) : DataW H := .agg [.lit (.int .u8 k), .lit (.int .i64 n), .lit (.int .u64 f), .lit (.string s.data.toList)]
def chD (a : Chg) : DataW H := .agg [.lit (.int .i64 a.key), .lit (.bool a.g), vD a.k a.n a.f a.s]
def atD (a : Att) : DataW H := .agg [.lit (.int .i64 a.key), vD a.k a.n a.f a.s]

theorem ch_fields : Tryz.prog.underlying 63 = some (.struct (Tryz.prog.fieldsOf 63)) := by kernel_rfl
theorem ch_cells : Tryz.prog.cellsOf 63 = 6 := by kernel_rfl
theorem ch_types : (Tryz.prog.fieldsOf 63).map (fun f => (f.type, f.offset)) = #[(3, 0), (4, 1), (59, 2)] := by kernel_rfl
theorem ch_size : (Tryz.prog.fieldsOf 63).size = 3 := by kernel_rfl
theorem bool_cells6 : Tryz.prog.cellsOf 4 = 1 := by kernel_rfl
set_option maxRecDepth 100000 in
theorem open_val6 {n : Nat} {cs : List Value} {y : DataW H × List MemPlace} (h : DataW.trod enc Tryz.prog w base spare held n 59 cs = some y) :
    ∃ (k n' f : Int) (s : ByteArray), (Lit.int .u8 k).wf = true ∧ (Lit.int .i64 n').wf = true ∧ (Lit.int .u64 f).wf = true ∧ s.size ≤ maxLen ∧ cs = [.int .u8 k, .int .i64 n', .int .u64 f, .string s] ∧ y.1 = vD k n' f s := by
  obtain ⟨ys, m, -, hy, hlen, hys, hf⟩ := DataW.trod_struct value_fields5 h
  rw [value_cells5] at hlen
  rw [value_size5] at hys
  have hj : ∀ (j : Nat) (t : TypeId), (#[5, 2, 57, 9] : Array TypeId)[j]? = some t → DataW.trod enc Tryz.prog w base spare held m t ((cs.drop j).take 1) = ys[j]? := by
    intro j t hjt
    rw [← value_types5, Array.getElem?_map, Option.map_eq_some_iff] at hjt
    obtain ⟨f, hfj, rfl⟩ := hjt
    obtain ⟨ho, hk⟩ := hone_of value_one5 j f hfj
    have := hf j f hfj
    rwa [ho, hk] at this
  clear hf h
  match cs, hlen with
  | [c0, c1, c2, c3], _ =>
    match ys, hys with
    | [y0, y1, y2, y3], _ =>
      have h0 : DataW.trod enc Tryz.prog w base spare held m 5 [c0] = some y0 := hj 0 _ rfl
      have h1 : DataW.trod enc Tryz.prog w base spare held m 2 [c1] = some y1 := hj 1 _ rfl
      have h2 : DataW.trod enc Tryz.prog w base spare held m 57 [c2] = some y2 := hj 2 _ rfl
      have h3 : DataW.trod enc Tryz.prog w base spare held m 9 [c3] = some y3 := hj 3 _ rfl
      obtain ⟨a0, e0, rfl, w0⟩ := DataW.trod_int Tryz.underlying5 h0
      obtain ⟨a1, e1, rfl, w1⟩ := DataW.trod_int Tryz.underlying2 h1
      obtain ⟨a2, e2, rfl, w2⟩ := DataW.trod_int Tryz.underlying57 h2
      obtain ⟨a3, e3, rfl, w3⟩ := DataW.trod_string Tryz.underlying9 h3
      simp only [List.cons.injEq, and_true] at e0 e1 e2 e3
      subst e0 e1 e2 e3
      exact ⟨a0, a1, a2, a3, w0, w1, w2, w3, rfl, by rw [hy]; rfl⟩

set_option maxRecDepth 100000 in
theorem open_att6 {n : Nat} {cs : List Value} {y : DataW H × List MemPlace} (h : DataW.trod enc Tryz.prog w base spare held n 61 cs = some y) : ∃ a : Att, AttW a ∧ cs = ac a ∧ y.1 = atD a := by
  obtain ⟨ys, m, -, hy, hlen, hys, hf⟩ := DataW.trod_struct att_fields h
  rw [att_cells] at hlen
  rw [att_size] at hys
  have hj : ∀ (j : Nat) (t : TypeId) (o : Nat), (#[(3, 0), (59, 1)] : Array (TypeId × Nat))[j]? = some (t, o) → DataW.trod enc Tryz.prog w base spare held m t ((cs.drop o).take (Tryz.prog.cellsOf t)) = ys[j]? := by
    intro j t o hjt
    rw [← att_types, Array.getElem?_map, Option.map_eq_some_iff] at hjt
    obtain ⟨f, hfj, e⟩ := hjt
    simp only [Prod.mk.injEq] at e
    obtain ⟨rfl, rfl⟩ := e
    exact hf j f hfj
  clear hf h
  match cs, hlen with
  | [c0, c1, c2, c3, c4], _ =>
    match ys, hys with
    | [y0, y1], _ =>
      have h0 := hj 0 3 0 rfl
      have h1 := hj 1 59 1 rfl
      rw [int_cells5] at h0
      rw [value_cells5] at h1
      have h0' : DataW.trod enc Tryz.prog w base spare held m 3 [c0] = some y0 := h0
      have h1' : DataW.trod enc Tryz.prog w base spare held m 59 [c1, c2, c3, c4] = some y1 := h1
      obtain ⟨a0, e0, rfl, w0⟩ := DataW.trod_int Tryz.underlying3 h0'
      obtain ⟨k, n', f, s, w1, w2, w3, w4, e1, hd⟩ := open_val6 h1'
      simp only [List.cons.injEq, and_true] at e0 e1
      obtain ⟨rfl, rfl, rfl, rfl⟩ := e1
      subst e0
      exact ⟨⟨a0, k, n', f, s⟩, ⟨w0, w1, w2, w3, w4⟩, rfl, by rw [hy]; simp [atD, hd]⟩

set_option maxRecDepth 100000 in
theorem open_chg6 {n : Nat} {cs : List Value} {y : DataW H × List MemPlace} (h : DataW.trod enc Tryz.prog w base spare held n 63 cs = some y) : ∃ a : Chg, ChgW a ∧ cs = cc a ∧ y.1 = chD a := by
  obtain ⟨ys, m, -, hy, hlen, hys, hf⟩ := DataW.trod_struct ch_fields h
  rw [ch_cells] at hlen
  rw [ch_size] at hys
  have hj : ∀ (j : Nat) (t : TypeId) (o : Nat), (#[(3, 0), (4, 1), (59, 2)] : Array (TypeId × Nat))[j]? = some (t, o) → DataW.trod enc Tryz.prog w base spare held m t ((cs.drop o).take (Tryz.prog.cellsOf t)) = ys[j]? := by
    intro j t o hjt
    rw [← ch_types, Array.getElem?_map, Option.map_eq_some_iff] at hjt
    obtain ⟨f, hfj, e⟩ := hjt
    simp only [Prod.mk.injEq] at e
    obtain ⟨rfl, rfl⟩ := e
    exact hf j f hfj
  clear hf h
  match cs, hlen with
  | [c0, cb, c1, c2, c3, c4], _ =>
    match ys, hys with
    | [y0, yb, y1], _ =>
      have h0 := hj 0 3 0 rfl
      have hb := hj 1 4 1 rfl
      have h1 := hj 2 59 2 rfl
      rw [int_cells5] at h0
      rw [bool_cells6] at hb
      rw [value_cells5] at h1
      have h0' : DataW.trod enc Tryz.prog w base spare held m 3 [c0] = some y0 := h0
      have hb' : DataW.trod enc Tryz.prog w base spare held m 4 [cb] = some yb := hb
      have h1' : DataW.trod enc Tryz.prog w base spare held m 59 [c1, c2, c3, c4] = some y1 := h1
      obtain ⟨a0, e0, rfl, w0⟩ := DataW.trod_int Tryz.underlying3 h0'
      obtain ⟨ab, eb, rfl⟩ := DataW.trod_bool Tryz.underlying4 hb'
      obtain ⟨k, n', f, s, w1, w2, w3, w4, e1, hd⟩ := open_val6 h1'
      simp only [List.cons.injEq, and_true] at e0 eb e1
      obtain ⟨rfl, rfl, rfl, rfl⟩ := e1
      subst e0 eb
      exact ⟨⟨a0, ab, k, n', f, s⟩, ⟨w0, w1, w2, w3, w4⟩, rfl, by rw [hy]; simp [chD, hd]⟩

set_option maxRecDepth 100000 in
/-- A slice that came in, of whatever lies as C says. -/
theorem open_rows {α : Type} (C : Cel α) (W : α → Prop) (D : α → DataW H) {t e : TypeId} (ht : Tryz.prog.underlying t = some (.slice e)) (hcell : Tryz.prog.cellsOf e = C.m)
    (hop : ∀ {n : Nat} {cs : List Value} {y : DataW H × List MemPlace}, DataW.trod enc Tryz.prog w base spare held n e cs = some y → ∃ a : α, W a ∧ cs = C.c a ∧ y.1 = D a)
    {n : Nat} {v : Value} {x : DataW H × List MemPlace} (h : DataW.trod enc Tryz.prog w base spare held n t [v] = some x) :
    ∃ xs : List α, Row C w v xs ∧ (∀ a ∈ xs, W a) ∧ (x.1 = .nil ∧ xs = [] ∨ ∃ sp, x.1 = .slice (xs.map D) sp) := by
  rcases open_slice ht h with ⟨hcs, hx⟩ | ⟨a, len, cap, m, n', Dt, Pl, hcs, -, hl, hm, hmm, hx, hi⟩
  · injection hcs with hv _
    subst hv
    exact ⟨[], Row.nil w, by simp, .inl ⟨by rw [hx], rfl⟩⟩
  · injection hcs with hv _
    subst hv
    have hlm : len ≤ m := by rw [hmm]; split <;> omega
    have hex : ∀ i, i < len → ∃ k : α, W k ∧ (∀ j u, (C.c k)[j]? = some u → w.cell? (a.add (i * C.m + j)) = some u) ∧ Dt i = D k := by
      intro i hil
      obtain ⟨cs', hc, ht⟩ := hi i (by omega)
      obtain ⟨k, hw, rfl, hd⟩ := hop ht
      rw [hcell] at hc
      obtain ⟨-, hcl, hat⟩ := World.cells?_some hc
      refine ⟨k, hw, fun j u hu => ?_, hd⟩
      have hj : j < C.m := by have := (List.getElem?_eq_some_iff.1 hu).1; rwa [C.len] at this
      have := hat j hj
      rw [hu, add_add] at this
      exact this
    have hex2 : ∀ i : Fin len, ∃ k : α, W k ∧ (∀ j u, (C.c k)[j]? = some u → w.cell? (a.add (i.1 * C.m + j)) = some u) ∧ Dt i.1 = D k := fun i => hex i.1 i.2
    obtain ⟨f, hf⟩ := Classical.axiomOfChoice hex2
    have hlen : (List.ofFn f).length = len := by simp
    refine ⟨List.ofFn f, ?_, fun k hk => ?_, .inr ⟨(List.range (m - len)).map fun j => Dt (len + j), ?_⟩⟩
    · by_cases h0 : len = 0
      · subst h0
        exact .inl ⟨some a, cap, rfl, by simp, hm, by simp⟩
      · obtain ⟨b, off, spot⟩ := a
        have hspot : spot = none := by
          have hp : 0 < (C.c (f ⟨0, by omega⟩)).length := by rw [C.len]; exact C.pos
          have := (hf ⟨0, by omega⟩).2.1 0 _ (List.getElem?_eq_getElem hp)
          simpa [Addr.add] using World.cell?_spot this
        subst hspot
        refine .inr ⟨b, off, cap, by rw [hlen], by omega, by omega, hm, fun j u hu => ?_⟩
        have hjl : j < len * C.m := by
          have := (List.getElem?_eq_some_iff.1 hu).1
          rwa [fl_len, hlen] at this
        have hd : j / C.m < len := Nat.div_lt_of_lt_mul (by rw [Nat.mul_comm]; exact hjl)
        have e1 : j / C.m * C.m + j % C.m = j := by rw [Nat.mul_comm]; exact Nat.div_add_mod j C.m
        have g := fl_get C (List.ofFn f) (j / C.m) (j % C.m) (by omega) (Nat.mod_lt _ C.pos)
        rw [e1, hu] at g
        have := (hf ⟨j / C.m, hd⟩).2.1 (j % C.m) u (by rw [g]; simp)
        rw [e1, Go.WideShapes.add_plain] at this
        exact this
    · obtain ⟨i, rfl⟩ := List.mem_ofFn.1 hk
      exact (hf i).1
    · rw [hx]
      show DataW.slice ((List.range len).map Dt) _ = DataW.slice _ _
      congr 1
      apply List.ext_getElem
      · simp
      · intro i h1 h2
        simp at h1
        simp [(hf ⟨i, h1⟩).2.2]

/-- What a slice of changes, of attributes, that came in is. -/
def InC (d : DataW H) (xs : List Chg) : Prop := d = .nil ∧ xs = [] ∨ ∃ sp, d = .slice (xs.map chD) sp
def InA (d : DataW H) (xs : List Att) : Prop := d = .nil ∧ xs = [] ∨ ∃ sp, d = .slice (xs.map atD) sp
set_option maxRecDepth 100000 in
theorem open_chs {n : Nat} {v : Value} {x : DataW H × List MemPlace} (h : DataW.trod enc Tryz.prog w base spare held n 54 [v] = some x) : ∃ xs, Crow w v xs ∧ (∀ a ∈ xs, ChgW a) ∧ InC x.1 xs :=
  open_rows chC ChgW chD Tryz.underlying54 ch_cells (fun h => open_chg6 h) h
set_option maxRecDepth 100000 in
theorem open_ats {n : Nat} {v : Value} {x : DataW H × List MemPlace} (h : DataW.trod enc Tryz.prog w base spare held n 53 [v] = some x) : ∃ xs, Arow w v xs ∧ (∀ a ∈ xs, AttW a) ∧ InA x.1 xs :=
  open_rows attC AttW atD Tryz.underlying53 att_cells (fun h => open_att6 h) h

/-- What they are of bulk. -/
theorem bulk_C (xs : List Chg) : totC xs ≤ Rows.uptoBulkAll (xs.map (chD (H := H))) := by
  induction xs with
  | nil => simp [totC, sizeC, Rows.uptoBulkAll]
  | cons x r ih =>
    have e : totC (x :: r) = totC r + (1 + x.s.size) := by simp [totC, sizeC]; omega
    have e2 : x.s.data.toList.length = x.s.size := by rw [Array.length_toList]; rfl
    rw [e, List.map_cons, Rows.uptoBulkAll]
    simp only [chD, vD, Rows.uptoBulk, Rows.uptoBulkAll]
    omega
theorem bulk_A (xs : List Att) : totA xs ≤ Rows.uptoBulkAll (xs.map (atD (H := H))) := by
  induction xs with
  | nil => simp [totA, sizeA, Rows.uptoBulkAll]
  | cons x r ih =>
    have e : totA (x :: r) = totA r + (1 + x.s.size) := by simp [totA, sizeA]; omega
    have e2 : x.s.data.toList.length = x.s.size := by rw [Array.length_toList]; rfl
    rw [e, List.map_cons, Rows.uptoBulkAll]
    simp only [atD, vD, Rows.uptoBulk, Rows.uptoBulkAll]
    omega
theorem in_bulk {d : DataW H} : ∀ {l : List (DataW H)}, d ∈ l → Rows.uptoBulk d ≤ Rows.uptoBulkAll l
  | x :: r, h => by
    rw [Rows.uptoBulkAll]
    rcases List.mem_cons.1 h with rfl | h
    · omega
    · have := in_bulk h; omega
end
end Go.Proofs.YtohgopibimgjfaaGreat

/- C13: known -/
namespace Go.Proofs.YtohgopibimgjfaaGreat
open Go.RowKit
set_option linter.unusedVariables false

@[reducible] def e0 : ByteArray := ⟨#[]⟩
end Go.Proofs.YtohgopibimgjfaaGreat

/- C15: the contracts in the form in which the laws take them -/
namespace Go.Proofs.YtohgopibimgjfaaGreat
open Go.RowKit
set_option linter.unusedVariables false

end Go.Proofs.YtohgopibimgjfaaGreat

/- C20: PatchMay -/
namespace Go.Proofs.YtohgopibimgjfaaGreat
open Go.RowKit
set_option linter.unusedVariables false

end Go.Proofs.YtohgopibimgjfaaGreat

/- UW: calls that came in: a row of them, and one by value -/
namespace Go.Proofs.YtohgopibimgjfaaGreat
open Go.RowKit Go.ChangeShapes Go.WideShapes Go.Deep
set_option linter.unusedVariables false

section
variable {H : Type} {enc : TypeId × Value → H} {w : World} {base : Nat} {spare : Nat → Bool} {held : Bool}
def intC : Cel Int := ⟨fun x => [.int .i32 x], 1, fun _ => rfl, fun x u hu => by obtain rfl := List.mem_singleton.1 hu; rfl, by decide⟩
theorem fl_intC : ∀ xs : List Int, fl intC xs = xs.map (Value.int .i32)
  | [] => rfl
  | x :: r => by rw [fl_cons, fl_intC r]; rfl
end
end Go.Proofs.YtohgopibimgjfaaGreat

/- BU: blocks apart, variables, rounds (out of NA, WF, TA, KR, KS, QF, KD, OD) -/
namespace Go
section
variable {l n : Nat} {P : Program} {ops : Array Oper} {Q : Exit → Act → World → Prop} {a : Act} {w : World}
end
end Go
namespace Go
section
variable {l n : Nat} {P : Program} {ops : Array Oper} {Q : Exit → Act → World → Prop}
end
end Go
namespace Go.Proofs.YtohgopibimgjfaaGreat
open Go.RowKit Go.Shelf
set_option linter.unusedVariables false
set_option maxRecDepth 100000
/-! ### blocks apart -/
theorem owns_kept {w w' : World} {base : Nat} {e : TypeId} {size : Nat} {v : Value} {n : Nat} {xs : List Value} (h : w.ownsRow base e size v n xs) (hk : ∀ g, v.ownBlock = some g → w'.heap[g]? = w.heap[g]?) : w'.ownsRow base e size v n xs := by
  refine ⟨h.1, ?_⟩
  rcases h.2 with hn | ⟨g, cap, cur, rfl, hB, hg, rest⟩
  · exact .inl hn
  · exact .inr ⟨g, cap, cur, rfl, hB, (hk g rfl).trans hg, rest⟩
theorem own_tag {w : World} {base : Nat} {e : TypeId} {size : Nat} {v : Value} {n : Nat} {xs : List Value} (h : w.ownsRow base e size v n xs) {g : Nat} (hg : v.ownBlock = some g) : ∃ cur, w.heap[g]? = some (.cells cur e (0, 0)) := by
  rcases h.2 with ⟨rfl, _⟩ | ⟨g', cap, cur, rfl, hB, hh, rest⟩
  · simp [Value.ownBlock] at hg
  · simp [Value.ownBlock] at hg; subst hg; exact ⟨cur, hh⟩
theorem own_lt7 {w : World} {base : Nat} {e : TypeId} {size : Nat} {v : Value} {n : Nat} {xs : List Value} (h : w.ownsRow base e size v n xs) {g : Nat} (hg : v.ownBlock = some g) : g < w.heap.size := by
  obtain ⟨cur, hc⟩ := own_tag h hg
  exact (Array.getElem?_eq_some_iff.1 hc).1
theorem lt_of_heap {w : World} {k : Nat} {o : Obj} (h : w.heap[k]? = some o) : k < w.heap.size := (Array.getElem?_eq_some_iff.1 h).1
/-- But for blocks of S, what lay there lies there. -/
structure Off (S : Nat → Prop) (w w' : World) : Prop where
  os : w'.os = w.os
  tape : w'.tape = w.tape
  output : w'.output = w.output
  size : w.heap.size ≤ w'.heap.size
  block : ∀ k, k < w.heap.size → ¬ S k → w'.heap[k]? = w.heap[k]?
theorem Off.refl (S : Nat → Prop) (w : World) : Off S w w := ⟨rfl, rfl, rfl, Nat.le_refl _, fun _ _ _ => rfl⟩
theorem Off.trans {S : Nat → Prop} {a b c : World} (h : Off S a b) (k : Off (fun i => S i ∨ a.heap.size ≤ i) b c) : Off S a c :=
  ⟨k.os.trans h.os, k.tape.trans h.tape, k.output.trans h.output, Nat.le_trans h.size k.size, fun i hi hS =>
    (k.block i (Nat.lt_of_lt_of_le hi h.size) (fun hh => by rcases hh with hh | hh; exact hS hh; omega)).trans (h.block i hi hS)⟩
theorem Off.seq {S : Nat → Prop} {a b c : World} (h : Off S a b) (k : Off S b c) : Off S a c :=
  ⟨k.os.trans h.os, k.tape.trans h.tape, k.output.trans h.output, Nat.le_trans h.size k.size, fun i hi hS => (k.block i (Nat.lt_of_lt_of_le hi h.size) hS).trans (h.block i hi hS)⟩
theorem Off.cut {S : Nat → Prop} {a b : World} (h : Off (fun k => S k ∨ a.heap.size ≤ k) a b) : Off S a b :=
  ⟨h.os, h.tape, h.output, h.size, fun k hk hn => h.block k hk (fun hh => by rcases hh with hh | hh; exact hn hh; omega)⟩
theorem Off.mono {S S' : Nat → Prop} {a b : World} (h : Off S a b) (hS : ∀ k, S k → S' k) : Off S' a b := ⟨h.os, h.tape, h.output, h.size, fun k hk hn => h.block k hk (fun hh => hn (hS k hh))⟩
theorem Off.of_below {S : Nat → Prop} {a b : World} (h : Below a.heap.size a b) : Off S a b := ⟨h.os, h.tape, h.output, h.size, fun k hk _ => h.block k hk⟩
theorem Off.of_grown {S : Nat → Prop} {a b : World} {row : Option Nat} (h : a.grownBy b row) (hr : ∀ g, row = some g → S g) : Off S a b :=
  ⟨h.os, h.tape, h.output, h.size, fun k hk hn => h.block k hk (fun e => hn (hr k e.symm))⟩
theorem Off.below {S : Nat → Prop} {a b : World} {B : Nat} (h : Off S a b) (hS : ∀ k, S k → B ≤ k) (hB : B ≤ a.heap.size) : Below B a b :=
  ⟨h.os, h.tape, h.output, h.size, fun k hk => h.block k (by omega) (fun hh => by have := hS k hh; omega)⟩
theorem far {w w' : World} {row : Option Nat} (hg : w.grownBy w' row) {k : Nat} {o : Obj} (hk : w.heap[k]? = some o) (hr : ∀ g, row = some g → ∃ o', w.heap[g]? = some o' ∧ o' ≠ o) : w'.heap[k]? = some o := by
  rw [hg.block k (Array.getElem?_eq_some_iff.1 hk).1]
  · exact hk
  · intro e
    obtain ⟨o', h1, h2⟩ := hr k e.symm
    rw [hk] at h1
    exact h2 (Option.some.inj h1).symm
theorem grown_set {w : World} {g o : Nat} (u : Value) : w.grownBy (w.setCell ⟨g, o, none⟩ u) (some g) :=
  ⟨rfl, rfl, rfl, by simp [World.setCell], fun k _ hk => Below.heap_setCell _ _ _ _ (fun e => hk (by rw [e]))⟩
theorem heap_set {w : World} {g o : Nat} {c : Array Value} {e : TypeId} {fz : Nat × Nat} (u : Value) (h : w.heap[g]? = some (.cells c e fz)) : (w.setCell ⟨g, o, none⟩ u).heap[g]? = some (.cells (c.setIfInBounds o u) e fz) := by
  simp [World.setCell, Array.getElem?_modify, h]
theorem owns_set {w : World} {base : Nat} {e : TypeId} {size : Nat} {g cap n : Nat} {xs : List Value} (h : w.ownsRow base e size (.slice (some ⟨g, 0, none⟩) n cap) n xs) {j : Nat} (u : Value) :
    (w.setCell ⟨g, j, none⟩ u).ownsRow base e size (.slice (some ⟨g, 0, none⟩) n cap) n (xs.set j u) := by
  refine ⟨by rw [List.length_set]; exact h.1, ?_⟩
  rcases h.2 with ⟨hn, _⟩ | ⟨g', cap', cur, hv, hB, hg, hc, hm, hs, ht⟩
  · cases hn
  · injection hv with e1 e2 e3
    injection e1 with e1
    injection e1 with e1
    subst e1 e3
    refine .inr ⟨g, cap, cur.setIfInBounds j u, rfl, hB, heap_set u hg, hc, hm, by simpa using hs, ?_⟩
    rw [Array.toList_setIfInBounds, List.take_set, ht]
/-- What an owned row's slice looks like. -/
theorem own_shape {w : World} {base : Nat} {e : TypeId} {size : Nat} {v : Value} {n : Nat} {xs : List Value} (h : w.ownsRow base e size v n xs) : ∃ a c, v = .slice a n c ∧ (a = none ∨ ∃ g, a = some ⟨g, 0, none⟩) ∧ n ≤ c := by
  rcases h.2 with ⟨rfl, rfl⟩ | ⟨g, cap, cur, rfl, _, _, hc, _⟩
  · exact ⟨none, 0, rfl, .inl rfl, Nat.le_refl _⟩
  · exact ⟨_, cap, rfl, .inr ⟨g, rfl⟩, hc⟩
section
variable {S : Nat → Prop} {w w' : World}
theorem Off.below_r {a b c : World} (h : Off S a b) (k : Below b.heap.size b c) : Off S a c := h.seq (Off.of_below k)
theorem Off.below_l {a b c : World} (h : Below a.heap.size a b) (k : Off S b c) : Off S a c := (Off.of_below h).seq k
/-- Block b holds these cells, as a variable of type t. -/
def Cb (b : Nat) (t : TypeId) (cs : Array Value) (w : World) : Prop := w.heap[b]? = some (.cells cs t (0, 0))
theorem Cb.below {b : Nat} {t : TypeId} {cs : Array Value} (h : Cb b t cs w) (hb : Below w.heap.size w w') : Cb b t cs w' := (hb.block b (lt_of_heap h)).trans h
theorem Cb.off {b : Nat} {t : TypeId} {cs : Array Value} {X : Nat → Prop} (h : Cb b t cs w) (ho : Off X w w') (hx : ¬ X b) : Cb b t cs w' := (ho.block b (lt_of_heap h) hx).trans h
theorem Cb.alloc {b : Nat} {t : TypeId} {cs : Array Value} (h : Cb b t cs w) (o : Obj) : Cb b t cs (w.alloc o) := (heap_alloc_old w o (lt_of_heap h)).trans h
theorem Cb.lt {b : Nat} {t : TypeId} {cs : Array Value} (h : Cb b t cs w) : b < w.heap.size := lt_of_heap h
theorem Cb.set {b : Nat} {t : TypeId} {cs : Array Value} (h : Cb b t cs w) (ds : Array Value) : Cb b t ds (w.setRow b ds) := setRow_heap _ _ _ ds _ _ h
theorem Cb.cell {b : Nat} {t : TypeId} {cs : Array Value} (h : Cb b t cs w) (o : Nat) : w.cell? ⟨b, o, none⟩ = cs[o]? := cell_of_row w b o _ _ _ h
theorem Cb.frozen {b : Nat} {t : TypeId} {cs : Array Value} (h : Cb b t cs w) (o : Nat) : w.frozen? ⟨b, o, none⟩ = false := by simp [World.frozen?, show w.heap[b]? = _ from h]
theorem cb_new (w : World) (t : TypeId) (cs : Array Value) : Cb w.heap.size t cs (w.alloc (.cells cs t)) := heap_alloc_new w _
theorem below_row {B b : Nat} {a : World} {cs : Array Value} (h : Below B a w) (hb : B ≤ b) : Below B a (w.setRow b cs) := below_setRow h hb cs
end
section
variable {w0 w W W' : World}
end
section
variable {n0 : Nat} {X S : Nat → Prop} {W W' W1 w w' : World}
end
section
variable {W W' : World}
end
/-! ### a region that draws its order: whatever may come up -/
section
variable {P : Program} {l : List Oper} {Q : Exit → Act → World → Prop} {md : Region.Mode} {S : World → Prop} {fuel : Nat} {listed : Array Bool} {a : Act} {w : World}
theorem h_all1 {i : Nat} (hr : Region.ready md l.toArray listed = [i])
    (h1 : wpOp P l.toArray Q i (fun a' w' => S w' ∧ wpAnyH P md l.toArray Q S fuel (listed.setIfInBounds i true) a' w') a w) : wpAnyH P md l.toArray Q S (fuel + 1) listed a w :=
  wpAnyH_all hr (by simp) fun x hx => by simp at hx; subst hx; exact h1
theorem h_all2 {i j : Nat} (hr : Region.ready md l.toArray listed = [i, j])
    (h1 : wpOp P l.toArray Q i (fun a' w' => S w' ∧ wpAnyH P md l.toArray Q S fuel (listed.setIfInBounds i true) a' w') a w)
    (h2 : wpOp P l.toArray Q j (fun a' w' => S w' ∧ wpAnyH P md l.toArray Q S fuel (listed.setIfInBounds j true) a' w') a w) : wpAnyH P md l.toArray Q S (fuel + 1) listed a w :=
  wpAnyH_all hr (by simp) fun x hx => by
    simp at hx
    rcases hx with rfl | rfl
    · exact h1
    · exact h2
theorem h_all3 {i j k : Nat} (hr : Region.ready md l.toArray listed = [i, j, k])
    (h1 : wpOp P l.toArray Q i (fun a' w' => S w' ∧ wpAnyH P md l.toArray Q S fuel (listed.setIfInBounds i true) a' w') a w)
    (h2 : wpOp P l.toArray Q j (fun a' w' => S w' ∧ wpAnyH P md l.toArray Q S fuel (listed.setIfInBounds j true) a' w') a w)
    (h3 : wpOp P l.toArray Q k (fun a' w' => S w' ∧ wpAnyH P md l.toArray Q S fuel (listed.setIfInBounds k true) a' w') a w) : wpAnyH P md l.toArray Q S (fuel + 1) listed a w :=
  wpAnyH_all hr (by simp) fun x hx => by
    simp at hx
    rcases hx with rfl | rfl | rfl
    · exact h1
    · exact h2
    · exact h3
/-- An operation by a law of its own. -/
theorem o_step {R : Act → World → Prop} {i : Nat} {oi : Oper} (hi : l[i]? = some oi) (hw : Region.wanted oi (yielded l.toArray a.tmps) = true)
    (h : oi.wp P a w R Q) : wpOp P l.toArray Q i R a w := by
  have hi2 : l.toArray[i]? = some oi := by simpa using hi
  unfold wpOp
  simp only [hi2, hw, if_true]
  left
  exact h
theorem h_val {i : Nat} {oi : Oper} {v : Value} (hi : l[i]? = some oi) (hs : Region.noSelect l.toArray = true) (hf : Region.free md l.toArray listed i = true) (hr : (Region.ready md l.toArray listed).contains i = true)
    (hQ : ∀ c a w, Q (.panic c) (a.put oi.dst v) w → Q (.panic c) a w) (hw : Region.wanted oi (yielded l.toArray a.tmps) = true) (hv : ∀ w, S w → (execOp a.eval oi).run P w = .ok (.value v) w) (hS : S w)
    (h : wpAnyH P md l.toArray Q S fuel (listed.setIfInBounds i true) (a.put oi.dst v) w) : wpAnyH P md l.toArray Q S (fuel + 1) listed a w :=
  wpAnyH_take (by simpa using hi) hs hf hr hQ (.inl ⟨hw, hv⟩) hS h
theorem h_start {id : Nat} (hm : P.follows .mixedOrders = true) (h : wpAnyH P .any l.toArray Q S l.toArray.size (Array.replicate l.toArray.size false) a w.drew) : (Code.region id l.toArray true).wp P Q a w := wp_region_held hm h
theorem h_done (hr : Region.ready md l.toArray listed = []) (h : Q .normal a w) : wpAnyH P md l.toArray Q S fuel listed a w := wpAnyH_done hr h _
end
end Go.Proofs.YtohgopibimgjfaaGreat

/- VM1 -/
namespace Go.Proofs.YtohgopibimgjfaaGreat
set_option linter.unusedVariables false

/-- The form of a natural number. -/
def form (n : Nat) : List Int := if h : n < 128 then [(n : Int)] else ((n % 128 + 128 : Nat) : Int) :: form (n / 128)
  termination_by n
  decreasing_by omega

theorem form_small (n : Nat) (h : n < 128) : form n = [(n : Int)] := by rw [form, dif_pos h]
theorem form_big (n : Nat) (h : 128 ≤ n) : form n = ((n % 128 + 128 : Nat) : Int) :: form (n / 128) := by rw [form, dif_neg (by omega)]
theorem form_pos (n : Nat) : 1 ≤ (form n).length := by
  by_cases h : n < 128
  · rw [form_small n h]; simp
  · rw [form_big n (by omega)]; simp
theorem form_le : ∀ (k n : Nat), n < 128 ^ (k + 1) → (form n).length ≤ k + 1
  | 0, n, h => by rw [form_small n (by simpa using h)]; simp
  | k + 1, n, h => by
    by_cases hs : n < 128
    · rw [form_small n hs]; simp
    · rw [form_big n (by omega), List.length_cons]
      have := form_le k (n / 128) (by rw [Nat.div_lt_iff_lt_mul (by omega)]; rw [Nat.pow_succ] at h; exact h)
      omega
theorem form_ten (n : Nat) (h : n < 18446744073709551616) : (form n).length ≤ 10 :=
  form_le 9 n (Nat.lt_of_lt_of_le h (by decide))
theorem form_bytes (n : Nat) : ∀ x ∈ form n, 0 ≤ x ∧ x < 256 := by
  induction n using Nat.strongRecOn with
  | _ n ih =>
    by_cases hs : n < 128
    · rw [form_small n hs]; intro x hx; simp at hx; omega
    · rw [form_big n (by omega)]
      intro x hx
      rcases List.mem_cons.1 hx with rfl | hx
      · omega
      · exact ih (n / 128) (by omega) x hx

/-- What bytes begin with, whatever its size. -/
def dec : List Int → Option (Nat × Nat)
  | [] => none
  | c :: t => if c < 128 then some (c.toNat, 1) else match dec t with
    | none => none
    | some (n, s) => if n = 0 then none else some ((c - 128).toNat + 128 * n, s + 1)

theorem dec_low (c : Int) (t : List Int) (h : c < 128) : dec (c :: t) = some (c.toNat, 1) := by simp [dec, h]
theorem dec_form (n : Nat) (t : List Int) : dec (form n ++ t) = some (n, (form n).length) := by
  induction n using Nat.strongRecOn with
  | _ n ih =>
    by_cases hs : n < 128
    · rw [form_small n hs]
      simp only [List.cons_append, List.nil_append]
      rw [dec_low _ _ (by omega)]
      simp
    · rw [form_big n (by omega)]
      simp only [List.cons_append, dec]
      rw [if_neg (by omega), ih (n / 128) (by omega)]
      simp only
      rw [if_neg (by omega), List.length_cons]
      congr 2
      omega
theorem dec_take : ∀ (bs : List Int), (∀ b ∈ bs, 0 ≤ b ∧ b < 256) → ∀ n s, dec bs = some (n, s) → form n = bs.take s ∧ s = (form n).length ∧ 1 ≤ s ∧ s ≤ bs.length
  | [], _, n, s, h => by simp [dec] at h
  | c :: t, hb, n, s, h => by
    have hc := hb c (List.mem_cons_self ..)
    by_cases hl : c < 128
    · rw [dec_low c t hl] at h
      simp only [Option.some.injEq, Prod.mk.injEq] at h
      obtain ⟨rfl, rfl⟩ := h
      rw [form_small _ (by omega)]
      refine ⟨?_, by simp, by omega, by simp⟩
      simp
      omega
    · simp only [dec, if_neg hl] at h
      cases hd : dec t with
      | none => rw [hd] at h; cases h
      | some p =>
        obtain ⟨m, r⟩ := p
        rw [hd] at h
        simp only at h
        by_cases hm : m = 0
        · rw [if_pos hm] at h; cases h
        · rw [if_neg hm] at h
          simp only [Option.some.injEq, Prod.mk.injEq] at h
          obtain ⟨rfl, rfl⟩ := h
          obtain ⟨h1, h2, h3, h4⟩ := dec_take t (fun b hbt => hb b (List.mem_cons_of_mem _ hbt)) m r hd
          have e1 : ((c - 128).toNat + 128 * m) / 128 = m := by omega
          have e2 : (((c - 128).toNat + 128 * m) % 128 + 128 : Nat) = c.toNat := by omega
          rw [form_big _ (by omega), e1, e2]
          refine ⟨?_, by simp [h2], by omega, by simp; omega⟩
          rw [List.take_succ_cons, ← h1]
          congr 1
          omega
/-- What is read, once k digits are read that make acc. -/
def lift (k acc : Nat) : Option (Nat × Nat) → Option (Nat × Nat)
  | none => none
  | some (m, s) => if m = 0 ∧ 0 < k then none else some (acc + 128 ^ k * m, s + k)

theorem lift_start (d : Option (Nat × Nat)) : lift 0 0 d = d := by
  cases d with
  | none => rfl
  | some p => obtain ⟨m, s⟩ := p; simp [lift]
theorem lift_on (k acc : Nat) (c : Int) (t : List Int) (h : 128 ≤ c) : lift k acc (dec (c :: t)) = lift (k + 1) (acc + (c - 128).toNat * 128 ^ k) (dec t) := by
  simp only [dec, if_neg (show ¬ c < 128 by omega)]
  cases dec t with
  | none => rfl
  | some p =>
    obtain ⟨m, s⟩ := p
    by_cases hm : m = 0
    · simp [lift, hm]
    · simp only [lift, hm, false_and, if_false]
      rw [if_neg (by omega)]
      congr 2
      · rw [Nat.pow_succ, Nat.mul_add, Nat.mul_comm _ (128 ^ k), ← Nat.mul_assoc, ← Nat.add_assoc]
      · omega
theorem lift_last (k acc : Nat) (c : Int) (t : List Int) (h0 : 0 ≤ c) (h : c < 128) : lift k acc (dec (c :: t)) = if c = 0 ∧ 0 < k then none else some (acc + 128 ^ k * c.toNat, k + 1) := by
  rw [dec_low c t h]
  simp only [lift]
  by_cases hc : c = 0
  · subst hc
    by_cases hk : 0 < k
    · simp [hk]
    · simp [hk]; omega
  · rw [if_neg (by omega), if_neg (by omega), Nat.add_comm k 1]
theorem lift_big (k acc : Nat) (d : Option (Nat × Nat)) (n s : Nat) (h : lift k acc d = some (n, s)) : acc ≤ n ∧ (0 < k → 128 ^ k ≤ n) := by
  cases d with
  | none => cases h
  | some p =>
    obtain ⟨m, r⟩ := p
    simp only [lift] at h
    split at h
    · cases h
    · rename_i hh
      simp only [Option.some.injEq, Prod.mk.injEq] at h
      obtain ⟨rfl, rfl⟩ := h
      refine ⟨by omega, fun hk => ?_⟩
      have : 128 ^ k * 1 ≤ 128 ^ k * m := Nat.mul_le_mul_left _ (by omega)
      omega

/-- The number of 64 bits that bytes begin with. -/
def dec64 (bs : List Int) : Option (Nat × Nat) := match dec bs with
  | none => none
  | some (n, s) => if n < 18446744073709551616 then some (n, s) else none
theorem dec64_form (n : Nat) (t : List Int) (h : n < 18446744073709551616) : dec64 (form n ++ t) = some (n, (form n).length) := by
  unfold dec64
  rw [dec_form]
  simp [h]
theorem dec64_take (bs : List Int) (hb : ∀ b ∈ bs, 0 ≤ b ∧ b < 256) (n s : Nat) (h : dec64 bs = some (n, s)) : form n = bs.take s ∧ s = (form n).length ∧ 1 ≤ s ∧ s ≤ bs.length ∧ n < 18446744073709551616 ∧ s ≤ 10 := by
  unfold dec64 at h
  cases hd : dec bs with
  | none => rw [hd] at h; cases h
  | some p =>
    obtain ⟨m, r⟩ := p
    rw [hd] at h
    simp only at h
    split at h
    · simp only [Option.some.injEq, Prod.mk.injEq] at h
      obtain ⟨rfl, rfl⟩ := h
      obtain ⟨h1, h2, h3, h4⟩ := dec_take bs hb _ _ hd
      exact ⟨h1, h2, h3, h4, by assumption, by rw [h2]; exact form_ten _ (by assumption)⟩
    · cases h
theorem dec64_none (bs : List Int) (h : ∀ n s, dec bs = some (n, s) → 18446744073709551616 ≤ n) : dec64 bs = none := by
  unfold dec64
  cases hd : dec bs with
  | none => rfl
  | some p =>
    obtain ⟨m, r⟩ := p
    simp only
    rw [if_neg]
    have := h m r hd
    omega
theorem dec64_some (bs : List Int) (n s : Nat) (h : dec bs = some (n, s)) (hn : n < 18446744073709551616) : dec64 bs = some (n, s) := by
  unfold dec64
  rw [h]
  simp [hn]

/-- The natural number of a whole one, and back. -/
def zig (i : Int) : Nat := if 0 ≤ i then 2 * i.toNat else 2 * (-(i + 1)).toNat + 1
def zag (n : Nat) : Int := if n % 2 = 0 then (n / 2 : Nat) else -((n / 2 : Nat) : Int) - 1
theorem zag_zig (i : Int) : zag (zig i) = i := by
  unfold zag zig
  by_cases h : 0 ≤ i
  · rw [if_pos h, if_pos (by omega)]; omega
  · rw [if_neg h, if_neg (by omega)]; omega
theorem zig_lt (i : Int) (h1 : -9223372036854775808 ≤ i) (h2 : i ≤ 9223372036854775807) : zig i < 18446744073709551616 := by
  unfold zig
  split <;> omega
end Go.Proofs.YtohgopibimgjfaaGreat

/- V1 -/
namespace Go.Proofs.YtohgopibimgjfaaGreat
open Go.RowKit
set_option linter.unusedVariables false

theorem info8 : (Tryz.prog.info? 5).map (fun i => (i.zero, i.size, i.bytes)) = some (some (.int .u8 0), 1, 1) := by kernel_rfl
theorem size8 : (Tryz.prog.info? 5).map (·.size) = some 1 := by kernel_rfl

/-- The call's own row of numbers, of which nothing older is touched. -/
def WMade (xs : List Int) (w : World) (e : Ending) (w' : World) : Prop :=
  ∃ v, e = .returned v ∧ w'.ownsRow w.heap.size 5 1 v xs.length (xs.map (Value.int .u8)) ∧ Below w.heap.size w w'

set_option maxHeartbeats 1000000 in
theorem copied_any (v : Value) (bs : List Int) (m : Int) (w : World) (hv : Ints .u8 w v bs) (hlen : bs.length ≤ 50000000) (hm0 : 0 ≤ m) (hm : m ≤ 50000000) :
    Calls Tryz.prog 122 #[v, .int .i64 m] w (WMade bs w) := by
  obtain ⟨i0, hi, hz0, hz1, hz2⟩ := info_parts info8
  have HV := Lib.hid hv
  obtain ⟨a, cap, rfl⟩ := hv.shape
  clear hv
  go_enter Tryz.func122, Tryz.ntmps122
  go_wp2_with (at_make; refine wpList_make_ints _ rfl _ _ 31 rfl w.heap.size 5 i0 .u8 Tryz.underlying31 hi hz0 hz1 _ _ _ _ bs.length (bs.length + m.toNat) rfl rfl (by omega) (by omega) (by omega) (by rw [hz2]; omega) (by unfold maxLen; omega) (Nat.le_refl _) ?_)
  intro w0 hown0 hgrow0
  have hb0 : Below w.heap.size w w0 := (Below.refl _ _).grown hgrow0 (Nat.le_refl _) (fun k h => by cases h)
  have hi0 := HV.out.below hb0
  go_wp2_with (with_reducible refine wpList_copy_ints rfl (.tmp 13) (.tmp 14) 31 31 rfl 5 Tryz.underlying31 size8 w.heap.size .u8 _ _ _ _ bs hown0 hi0 rfl rfl (Nat.le_refl _) ?_)
  intro w1 hown1 hgrow1
  have hb1 : Below w.heap.size w w1 := hb0.grown hgrow1 hb0.size (fun k hk => (hown0.lt k hk).1)
  try simp only [List.drop_of_length_le (List.length_replicate ▸ Nat.le_refl _), List.append_nil] at hown1
  go_wp2
  go_ret
  exact ⟨_, rfl, hown1, hb1⟩

/-- The call's own row from B on; below B all is as it was. -/
def Onto (B : Nat) (xs : List Int) (w : World) (e : Ending) (w' : World) : Prop :=
  ∃ v, e = .returned v ∧ w'.ownsRow B 5 1 v xs.length (xs.map (Value.int .u8)) ∧ Below B w w'

theorem digit_and (m : Nat) (hm : m < 18446744073709551616) : bits .and .u64 (m : Int) 127 = ((m % 128 : Nat) : Int) := by
  rw [u64_and _ _ (by omega) (by omega) (by omega) (by omega)]
  have := Nat.and_two_pow_sub_one_eq_mod m 7
  simpa using congrArg (Nat.cast (R := Int)) this
theorem digit_or (m : Nat) (hm : m < 18446744073709551616) : bits .or .u8 128 (bits .and .u64 (m : Int) 127 % 256) = ((m % 128 + 128 : Nat) : Int) := by
  rw [digit_and m hm, u8_or _ _ (by omega) (by omega) (by omega) (by omega)]
  have e : (((m % 128 : Nat) : Int) % 256).toNat = m % 128 := by omega
  rw [e]
  have := Nat.two_pow_add_eq_or_of_lt (i := 7) (b := m % 128) (by omega) 1
  simp only [Nat.mul_one] at this
  have h2 : (128 : Int).toNat = 2 ^ 7 := by decide
  rw [h2, ← this]
  omega

def Fits (m : Nat) : Prop := m < 18446744073709551616

set_option maxHeartbeats 1000000 in
set_option maxRecDepth 100000 in
theorem digits_any (B : Nat) (v : Value) (xs : List Int) (n : Nat) (w : World) (hown : w.ownsRow B 5 1 v xs.length (xs.map (Value.int .u8))) (hB : B ≤ w.heap.size) (hlen : xs.length ≤ 150000000) (hn : n < 18446744073709551616) :
    Calls Tryz.prog 121 #[v, .int .u64 n] w (Onto B (xs ++ form n) w) := by
  obtain ⟨i0, hi, hz0, hz1, hz2⟩ := info_parts info8
  have H10 := form_ten n hn
  have HN : Fits n := hn
  clear hn
  go_enter Tryz.func121, Tryz.ntmps121
  go_wp2
  go_loopw [0, 1] (fun o i wr => ∃ (m : Nat) (pre : List Int), i = .int .u64 m ∧ Fits m ∧ wr.ownsRow B 5 1 o (xs.length + pre.length) ((xs ++ pre).map (Value.int .u8)) ∧ Hid (form n = pre ++ form m) ∧ Below B w wr) (fun _ i _ => (intOf i).toNat)
  case atStart => exact ⟨n, [], rfl, HN, by simpa using hown, by simp [Hid], Below.refl _ _⟩
  case round =>
    obtain ⟨m, pre, rfl, hm, hown', hf, hb⟩ := hrel
    have hsz := hb.size
    have hpl : (xs ++ pre).length ≤ 150000010 := by
      have e := congrArg List.length hf.out
      have := form_pos m
      simp only [List.length_append] at e ⊢
      omega
    simp only [List.length_append] at hpl
    by_cases hlt : 128 ≤ m
    · have hlz : (128 : Int) ≤ m := by omega
      clear hlt
      go_wp2_with (at_builtin; refine wpList_append_ints rfl (.tmp 7) (.tmp 12) 31 rfl B 5 i0 (.int .u8 0) 1 Tryz.underlying31 hi hz0 hz1 hz2 rfl _ _ _ rfl (hown'.alloc _) _ .u8 _ rfl (ints_single _ _ _ _) (by unfold maxLen; simp; omega) (by simp; omega) (by simp; omega) ?_)
      intro v1 w1 hown1 hg1
      have hown2 : w1.ownsRow B 5 1 v1 (xs.length + (pre ++ [((m % 128 + 128 : Nat) : Int)]).length) ((xs ++ (pre ++ [((m % 128 + 128 : Nat) : Int)])).map (Value.int .u8)) := by
        rw [digit_or m hm] at hown1
        simpa [Nat.add_assoc] using hown1
      have hb1 : Below B w w1 := (hb.alloc (by omega) _).grown hg1 (by simp; omega) (fun k hk => (hown'.lt k hk).1)
      have hf2 : Hid (form n = (pre ++ [((m % 128 + 128 : Nat) : Int)]) ++ form (m / 128)) := by
        show form n = _
        rw [hf.out, form_big m (by omega)]
        simp
      have hm2 : Fits (m / 128) := Nat.lt_of_le_of_lt (Nat.div_le_self _ _) hm
      clear hown1 hg1 hown' hb hf
      go_wp2
      go_roundw
      case rel => exact ⟨m / 128, _, by go_num, hm2, hown2, hf2, hb1⟩
      case measure => simp [intOf]; omega
    · have hlz : (m : Int) < 128 := by omega
      go_wp2_with (at_builtin; refine wpList_append_ints rfl (.tmp 16) (.tmp 19) 31 rfl B 5 i0 (.int .u8 0) 1 Tryz.underlying31 hi hz0 hz1 hz2 rfl _ _ _ rfl (hown'.alloc _) _ .u8 _ rfl (ints_single _ _ _ _) (by unfold maxLen; simp; omega) (by simp; omega) (by simp; omega) ?_)
      intro v1 w1 hown1 hg1
      have hb1 : Below B w w1 := (hb.alloc (by omega) _).grown hg1 (by simp; omega) (fun k hk => (hown'.lt k hk).1)
      have hown2 : w1.ownsRow B 5 1 v1 (xs ++ form n).length ((xs ++ form n).map (Value.int .u8)) := by
        rw [hf.out, form_small m (by omega)]
        simpa [Nat.add_assoc] using hown1
      go_wp2
      go_ret
      exact ⟨_, rfl, hown2, hb1⟩
end Go.Proofs.YtohgopibimgjfaaGreat

/- V2 -/
namespace Go.Proofs.YtohgopibimgjfaaGreat
open Go.RowKit
set_option linter.unusedVariables false

set_option maxHeartbeats 1000000 in
set_option maxRecDepth 100000 in
theorem appendUint_any (v : Value) (bs : List Int) (n : Nat) (w : World) (hv : Ints .u8 w v bs) (hlen : bs.length ≤ 50000000) (hn : Fits n) :
    Calls Tryz.prog 83 #[v, .int .u64 n] w (WMade (bs ++ form n) w) := by
  have C := copied_any v bs 10 w hv hlen (by omega) (by omega)
  obtain ⟨a, cap, rfl⟩ := hv.shape
  clear hv
  go_enter Tryz.func83, Tryz.ntmps83
  go_wp2_with (go_at_call 122; refine C.mono ?_)
  rintro e w1 ⟨v1, rfl, hown, hb⟩
  have D := digits_any w.heap.size v1 bs n w1 hown hb.size (by omega) hn
  go_wp2_with (go_at_call 121; refine D.mono ?_)
  rintro e w2 ⟨v2, rfl, hown2, hb2⟩
  go_wp2
  go_ret
  exact ⟨_, rfl, hown2, hb.trans hb2⟩

theorem zig_neg_bits (i : Int) (h : i < 0) (h1 : -9223372036854775808 ≤ i) : bits .or .u64 (-(i + 1) * 2) 1 = (zig i : Int) := by
  unfold zig
  rw [if_neg (by omega), u64_or _ _ (by omega) (by omega) (by omega) (by omega)]
  have e : (-(i + 1) * 2).toNat = 2 ^ 1 * (-(i + 1)).toNat := by omega
  have := Nat.two_pow_add_eq_or_of_lt (i := 1) (b := 1) (by omega) (-(i + 1)).toNat
  rw [e]
  have h2 : (1 : Int).toNat = 1 := rfl
  rw [h2, ← this]

set_option maxHeartbeats 1000000 in
set_option maxRecDepth 100000 in
theorem naturalOf_any (i : Int) (w : World) (h1 : -9223372036854775808 ≤ i) (h2 : i ≤ 9223372036854775807) :
    Calls Tryz.prog 139 #[.int .i64 i] w fun e w' => e = .returned (.int .u64 (zig i)) ∧ w = w' := by
  by_cases h : i < 0
  · have Z := zig_neg_bits i h h1
    have HZ := Lib.hid Z
    clear Z
    go_enter Tryz.func139, Tryz.ntmps139
    go_wp2
    go_ret
    exact ⟨ret_int HZ.out, rfl⟩
  · have hz : (zig i : Int) = i * 2 := by unfold zig; rw [if_pos (by omega)]; omega
    rw [hz]
    clear hz
    go_enter Tryz.func139, Tryz.ntmps139
    go_wp2
    go_ret
    exact ⟨rfl, rfl⟩

set_option maxHeartbeats 1000000 in
set_option maxRecDepth 100000 in
theorem appendInt_any (v : Value) (bs : List Int) (i : Int) (w : World) (hv : Ints .u8 w v bs) (hlen : bs.length ≤ 50000000) (h1 : -9223372036854775808 ≤ i) (h2 : i ≤ 9223372036854775807) :
    Calls Tryz.prog 123 #[v, .int .i64 i] w (WMade (bs ++ form (zig i)) w) := by
  have C := naturalOf_any i w h1 h2
  have D := appendUint_any v bs (zig i) w hv hlen (zig_lt i h1 h2)
  obtain ⟨a, cap, rfl⟩ := hv.shape
  clear hv
  go_enter Tryz.func123, Tryz.ntmps123
  go_wp2_with (go_at_call 139; refine C.mono ?_)
  rintro e w1 ⟨rfl, rfl⟩
  go_wp2_with (go_at_call 83; refine D.mono ?_)
  rintro e w2 ⟨v2, rfl, hown2, hb2⟩
  go_wp2
  go_ret
  exact ⟨_, rfl, hown2, hb2⟩

set_option maxHeartbeats 1000000 in
set_option maxRecDepth 100000 in
theorem appendBytes_any (v u : Value) (bs xs : List Int) (w : World) (hv : Ints .u8 w v bs) (hu : Ints .u8 w u xs) (hlen : bs.length ≤ 45000000) (hlx : xs.length ≤ 45000000) :
    Calls Tryz.prog 125 #[v, u] w (WMade (bs ++ form xs.length ++ xs) w) := by
  obtain ⟨i0, hi, hz0, hz1, hz2⟩ := info_parts info8
  have C := copied_any v bs (10 + xs.length) w hv (by omega) (by omega) (by omega)
  have HU := Lib.hid hu
  obtain ⟨a, cap, rfl⟩ := hv.shape
  obtain ⟨a2, cap2, rfl⟩ := hu.shape
  clear hv hu
  go_enter Tryz.func125, Tryz.ntmps125
  go_wp2_with (go_at_call 122; refine C.mono ?_)
  rintro e w1 ⟨v1, rfl, hown, hb⟩
  have D := digits_any w.heap.size v1 bs xs.length w1 hown hb.size (by omega) (by omega)
  go_wp2_with (go_at_call 121; refine D.mono ?_)
  rintro e w2 ⟨v2, rfl, hown2, hb2⟩
  have hb12 := hb.trans hb2
  have hu2 := HU.out.below hb12
  have H10 := form_ten xs.length (by omega)
  have hl2 : (bs ++ form xs.length).length ≤ 50000000 := by simp; omega
  go_wp2_with (at_builtin; refine wpList_append_ints rfl (.tmp 15) (.tmp 16) 31 rfl w.heap.size 5 i0 (.int .u8 0) 1 Tryz.underlying31 hi hz0 hz1 hz2 rfl _ _ _ rfl hown2 _ .u8 xs rfl hu2 (by unfold maxLen; omega) (by omega) hb12.size ?_)
  intro v3 w3 hown3 hg3
  have hown4 : w3.ownsRow w.heap.size 5 1 v3 (bs ++ form xs.length ++ xs).length ((bs ++ form xs.length ++ xs).map (Value.int .u8)) := by
    simpa [Nat.add_assoc] using hown3
  have hb3 : Below w.heap.size w w3 := hb12.grown hg3 hb12.size (fun k hk => (hown2.lt k hk).1)
  go_wp2
  go_ret
  exact ⟨_, rfl, hown4, hb3⟩

set_option maxHeartbeats 1000000 in
set_option maxRecDepth 100000 in
theorem wholeOf_any (n : Nat) (w : World) (hn : Fits n) :
    Calls Tryz.prog 153 #[.int .u64 n] w fun e w' => e = .returned (.int .i64 (zag n)) ∧ w = w' := by
  have hand : bits .and .u64 (n : Int) 1 = ((n % 2 : Nat) : Int) := by
    unfold Fits at hn
    rw [u64_and _ _ (by omega) (by omega) (by omega) (by omega)]
    have := Nat.and_two_pow_sub_one_eq_mod n 1
    simp
  have hlt : (n : Int) / 2 ≤ 9223372036854775807 := by unfold Fits at hn; omega
  go_enter Tryz.func153, Tryz.ntmps153
  by_cases h : n % 2 = 0
  · have q1 : ((n : Int) % 2 == 1) = false := by rw [beq_eq_false_iff_ne]; omega
    go_wp2
    go_ret
    exact ⟨ret_int (by unfold zag; rw [if_pos h]; omega), rfl⟩
  · have q1 : ((n : Int) % 2 == 1) = true := by rw [beq_iff_eq]; omega
    go_wp2
    go_ret
    exact ⟨ret_int (by unfold zag; rw [if_neg h]; omega), rfl⟩

set_option maxHeartbeats 1000000 in
set_option maxRecDepth 100000 in
theorem whole_any (i : Int) (w : World) (h1 : -9223372036854775808 ≤ i) (h2 : i ≤ 9223372036854775807) :
    Calls Tryz.prog 98 #[.int .i64 i] w fun e w' => e = .returned (.int .u64 (zig i)) ∧ w = w' := by
  by_cases h : 0 ≤ i
  · go_enter Tryz.func98, Tryz.ntmps98
    go_wp2
    go_ret
    exact ⟨ret_int (by unfold zig; split <;> omega), rfl⟩
  · go_enter Tryz.func98, Tryz.ntmps98
    go_wp2
    go_ret
    exact ⟨ret_int (by unfold zig; split <;> omega), rfl⟩

set_option maxHeartbeats 1000000 in
set_option maxRecDepth 100000 in
theorem back_any (n : Nat) (w : World) (hn : Fits n) :
    Calls Tryz.prog 70 #[.int .u64 n] w fun e w' => e = .returned (.int .i64 (zag n)) ∧ w = w' := by
  have hlt : (n : Int) / 2 ≤ 9223372036854775807 := by unfold Fits at hn; omega
  by_cases h : n % 2 = 0
  · have q1 : ((n : Int) % 2 == 0) = true := by rw [beq_iff_eq]; omega
    go_enter Tryz.func70, Tryz.ntmps70
    go_wp2
    go_ret
    exact ⟨ret_int (by unfold zag; rw [if_pos h]; omega), rfl⟩
  · have q1 : ((n : Int) % 2 == 0) = false := by rw [beq_eq_false_iff_ne]; omega
    go_enter Tryz.func70, Tryz.ntmps70
    go_wp2
    go_ret
    exact ⟨ret_int (by unfold zag; rw [if_neg h]; omega), rfl⟩
end Go.Proofs.YtohgopibimgjfaaGreat

/- V3 -/
namespace Go.Proofs.YtohgopibimgjfaaGreat
open Go.RowKit
set_option linter.unusedVariables false

set_option maxHeartbeats 1000000 in
set_option maxRecDepth 100000 in
theorem wform_any (n : Nat) (w : World) (hn : Fits n) :
    Calls Tryz.prog 58 #[.int .u64 n] w (WMade (form n) w) := by
  obtain ⟨i0, hi, hz0, hz1, hz2⟩ := info_parts info8
  have H10 := form_ten n hn
  obtain ⟨B, hB⟩ : ∃ B, w.heap.size = B := ⟨_, rfl⟩
  have HB := Lib.hid hB
  have hBle : B ≤ w.heap.size := by omega
  clear hB
  go_enter Tryz.func58, Tryz.ntmps58
  go_wp2
  go_loopw [0, 3] (fun i o wr => ∃ (m : Nat) (pre : List Int), i = .int .u64 m ∧ Fits m ∧ wr.ownsRow B 5 1 o pre.length (pre.map (Value.int .u8)) ∧ Hid (form n = pre ++ form m) ∧ Below B w wr) (fun i _ _ => (intOf i).toNat)
  case atStart => exact ⟨n, [], rfl, hn, World.ownsRow_nil _ _ _ _, by simp [Hid], Below.refl _ _⟩
  case round =>
    obtain ⟨m, pre, rfl, hm, hown', hf, hb⟩ := hrel
    have hsz := hb.size
    have hpl : pre.length ≤ 10 := by
      have e := congrArg List.length hf.out
      have := form_pos m
      simp only [List.length_append] at e
      omega
    have hw : IntKind.u64.wrap ((m : Int) / 128) = (m : Int) / 128 := by
      unfold Fits at hm
      rw [IntKind.wrap_u64]
      omega
    by_cases hlt : 128 ≤ m
    · have q1 : ((m : Int) / 128 == 0) = false := by rw [beq_eq_false_iff_ne]; omega
      go_wp2_with (at_builtin; refine wpList_append_ints rfl (.tmp 16) (.tmp 19) 31 rfl B 5 i0 (.int .u8 0) 1 Tryz.underlying31 hi hz0 hz1 hz2 rfl _ _ _ rfl (hown'.alloc _) _ .u8 _ rfl (ints_single _ _ _ _) (by unfold maxLen; simp; omega) (by simp; omega) (by simp; omega) ?_)
      intro v1 w1 hown1 hg1
      have hown2 : w1.ownsRow B 5 1 v1 (pre ++ [((m % 128 + 128 : Nat) : Int)]).length ((pre ++ [((m % 128 + 128 : Nat) : Int)]).map (Value.int .u8)) := by
        have e : ((m % 128 + 128 : Nat) : Int) = (m : Int) % 128 + 128 := by omega
        rw [e]
        simpa [Nat.add_assoc] using hown1
      have hb1 : Below B w w1 := (hb.alloc (by omega) _).grown hg1 (by simp; omega) (fun k hk => (hown'.lt k hk).1)
      have hf2 : Hid (form n = (pre ++ [((m % 128 + 128 : Nat) : Int)]) ++ form (m / 128)) := by
        show form n = _
        rw [hf.out, form_big m (by omega)]
        simp
      have hm2 : Fits (m / 128) := Nat.lt_of_le_of_lt (Nat.div_le_self _ _) hm
      clear hown1 hg1 hown' hb hf
      go_wp2
      go_roundw
      case rel => exact ⟨m / 128, _, by go_num, hm2, hown2, hf2, hb1⟩
      case measure => simp [intOf]; omega
    · have q1 : ((m : Int) / 128 == 0) = true := by rw [beq_iff_eq]; omega
      go_wp2_with (at_builtin; refine wpList_append_ints rfl (.tmp 12) (.tmp 14) 31 rfl B 5 i0 (.int .u8 0) 1 Tryz.underlying31 hi hz0 hz1 hz2 rfl _ _ _ rfl (hown'.alloc _) _ .u8 _ rfl (ints_single _ _ _ _) (by unfold maxLen; simp; omega) (by simp; omega) (by simp; omega) ?_)
      intro v1 w1 hown1 hg1
      have hb1 : Below B w w1 := (hb.alloc (by omega) _).grown hg1 (by simp; omega) (fun k hk => (hown'.lt k hk).1)
      have hown2 : w1.ownsRow B 5 1 v1 (form n).length ((form n).map (Value.int .u8)) := by
        have e : (m : Int) % 128 = m := by omega
        rw [hf.out, form_small m (by omega)]
        rw [e] at hown1
        simpa [Nat.add_assoc] using hown1
      go_wp2
      go_ret
      exact ⟨_, rfl, HB.out.symm ▸ hown2, HB.out.symm ▸ hb1⟩
end Go.Proofs.YtohgopibimgjfaaGreat

/- V4 -/
namespace Go.Proofs.YtohgopibimgjfaaGreat
open Go.RowKit
set_option linter.unusedVariables false

def numOf (bs : List Int) : Nat := match dec64 bs with | none => 0 | some (n, _) => n
def sizeOf64 (bs : List Int) : Nat := match dec64 bs with | none => 0 | some (_, s) => s


theorem pow_seven (k : Nat) : (2 : Int) ^ (7 * k) = ((128 ^ k : Nat) : Int) := by
  rw [Int.pow_mul]
  simp
theorem pow_pos7 (k : Nat) : 0 < 128 ^ k := Nat.pow_pos (by omega)
/-- A digit's bits lie above those of the digits ahead of it. -/
theorem or_above (k acc D : Nat) (hk : k < 10) (hacc : acc < 128 ^ k) (hP : D * 128 ^ k < 18446744073709551616) :
    bits .or .u64 (acc : Int) ((D * 128 ^ k : Nat) : Int) = ((acc + D * 128 ^ k : Nat) : Int) ∧ acc + D * 128 ^ k < 18446744073709551616 := by
  have e : (128 : Nat) ^ k = 2 ^ (7 * k) := by rw [Nat.pow_mul]
  have h2 : acc + D * 128 ^ k < 18446744073709551616 := by
    have h64 : (18446744073709551616 : Nat) = 2 ^ (64 - 7 * k) * 128 ^ k := by
      rw [e, ← Nat.pow_add]
      have : 64 - 7 * k + 7 * k = 64 := by omega
      rw [this]
    have hD : D < 2 ^ (64 - 7 * k) := by
      rw [h64] at hP
      exact Nat.lt_of_mul_lt_mul_right hP
    have hD1 : (D + 1) * 128 ^ k ≤ 2 ^ (64 - 7 * k) * 128 ^ k := Nat.mul_le_mul_right _ hD
    rw [Nat.add_mul, Nat.one_mul, ← h64] at hD1
    omega
  refine ⟨?_, h2⟩
  rw [u64_or _ _ (by omega) (by omega) (by omega) (by omega)]
  have h := Nat.two_pow_add_eq_or_of_lt (i := 7 * k) (b := acc) (by rw [← e]; exact hacc) D
  rw [Int.toNat_natCast, Int.toNat_natCast, Nat.or_comm, Nat.add_comm acc, Nat.mul_comm D, e, h]

theorem first_none {bs : List Int} (h : dec64 bs = none) : numOf bs = 0 ∧ sizeOf64 bs = 0 := by simp [numOf, sizeOf64, h]
theorem first_some {bs : List Int} {n s : Nat} (h : dec64 bs = some (n, s)) : numOf bs = n ∧ sizeOf64 bs = s := by simp [numOf, sizeOf64, h]
theorem first_end (bs : List Int) (k acc : Nat) (hk : k ≤ 10) (hkl : k ≤ bs.length) (h : ¬ (k < bs.length ∧ k < 10)) (hdec : dec bs = lift k acc (dec (bs.drop k))) : dec64 bs = none := by
  refine dec64_none bs fun n s hn => ?_
  rw [hdec] at hn
  by_cases h10 : k = 10
  · subst h10
    have := (lift_big _ _ _ _ _ hn).2 (by omega)
    exact Nat.le_trans (by decide) this
  · rw [List.drop_of_length_le (by omega)] at hn
    simp [dec, lift] at hn

/-- What a round of first does, in numbers: the digit, the digit shifted, and what is left to be told. -/
theorem first_round (bs : List Int) (k acc : Nat) (hbb : ∀ b ∈ bs, 0 ≤ b ∧ b < 256) (hlt : k < bs.length) (hk : k < 10) (hacc : acc < 128 ^ k) (hdec : dec bs = lift k acc (dec (bs.drop k))) :
    ∃ D S : Nat, IntKind.u64.wrap (bits .and .u8 (bs.getD k 0) 127) = (D : Int) ∧ IntKind.u64.wrap ((D : Int) * 2 ^ (7 * k)) = (S : Int) ∧
      ((((S : Int) / 2 ^ (7 * k) != (D : Int)) = true ∧ dec64 bs = none) ∨
       ∃ R : Nat, ((S : Int) / 2 ^ (7 * k) != (D : Int)) = false ∧ bits .or .u64 (acc : Int) (S : Int) = (R : Int) ∧ Fits R ∧
        ((128 ≤ bs.getD k 0 ∧ Hid (R < 128 ^ (k + 1)) ∧ Hid (dec bs = lift (k + 1) R (dec (bs.drop (k + 1))))) ∨
         (bs.getD k 0 < 128 ∧ (bs.getD k 0 == 0) = true ∧ (0 : Int) < k ∧ Hid (dec64 bs = none)) ∨
         (bs.getD k 0 < 128 ∧ (bs.getD k 0 == 0) = false ∧ Hid (dec64 bs = some (R, k + 1))) ∨
         (bs.getD k 0 < 128 ∧ (bs.getD k 0 == 0) = true ∧ ¬ (0 : Int) < k ∧ Hid (dec64 bs = some (R, k + 1))))) := by
  have hx := hbb bs[k] (List.getElem_mem hlt)
  have hxe : bs[k] = bs.getD k 0 := by simp [List.getD, hlt]
  rw [hxe] at hx
  rw [drop_cons bs k hlt] at hdec
  generalize bs.getD k 0 = x at hx hdec
  have hA : bits .and .u8 x 127 = ((x.toNat % 128 : Nat) : Int) := by
    rw [u8_and _ _ (by omega) (by omega) (by omega) (by omega)]
    have := Nat.and_two_pow_sub_one_eq_mod x.toNat 7
    simpa using congrArg (Nat.cast (R := Int)) this
  have hT := pow_pos7 k
  refine ⟨x.toNat % 128, (x.toNat % 128 * 128 ^ k) % 18446744073709551616, ?_, ?_, ?_⟩
  · rw [hA, IntKind.wrap_u64]; omega
  · rw [pow_seven, IntKind.wrap_u64, ← Int.natCast_mul]; omega
  by_cases hP : x.toNat % 128 * 128 ^ k < 18446744073709551616
  · right
    obtain ⟨ho, hf⟩ := or_above k acc _ hk hacc hP
    rw [Nat.mod_eq_of_lt hP]
    refine ⟨_, ?_, ho, hf, ?_⟩
    · rw [pow_seven, bne_eq_false_iff_eq, ← Int.natCast_ediv, Nat.mul_div_cancel _ hT]
    · by_cases h128 : 128 ≤ x
      · left
        have e : x.toNat % 128 = (x - 128).toNat := by omega
        refine ⟨h128, ?_, ?_⟩
        · show _ < _
          rw [Nat.pow_succ]
          have : x.toNat % 128 * 128 ^ k ≤ 127 * 128 ^ k := Nat.mul_le_mul_right _ (by omega)
          omega
        · show _ = _
          rw [hdec, lift_on _ _ _ _ h128, e]
      · right
        have e : x.toNat % 128 = x.toNat := by omega
        rw [lift_last k acc x _ hx.1 (by omega)] at hdec
        by_cases h0 : x = 0 ∧ 0 < k
        · left
          rw [if_pos h0] at hdec
          exact ⟨by omega, by rw [beq_iff_eq]; exact h0.1, by omega, dec64_none bs fun n s hn => by rw [hdec] at hn; cases hn⟩
        · right
          rw [if_neg h0] at hdec
          have hs : dec64 bs = some (acc + x.toNat % 128 * 128 ^ k, k + 1) := dec64_some bs _ _ (by rw [hdec, e, Nat.mul_comm]) hf
          by_cases hx0 : x = 0
          · exact .inr ⟨by omega, by rw [beq_iff_eq]; exact hx0, by omega, hs⟩
          · exact .inl ⟨by omega, by rw [beq_eq_false_iff_ne]; exact hx0, hs⟩
  · left
    refine ⟨?_, ?_⟩
    · rw [pow_seven, bne_iff_ne, ne_eq, ← Int.natCast_ediv]
      intro he
      have he2 : (x.toNat % 128 * 128 ^ k) % 18446744073709551616 / 128 ^ k = x.toNat % 128 := by omega
      have h1 : (x.toNat % 128 * 128 ^ k) % 18446744073709551616 < x.toNat % 128 * 128 ^ k := Nat.lt_of_lt_of_le (Nat.mod_lt _ (by omega)) (by omega)
      have h2 := (Nat.div_lt_iff_lt_mul hT).2 h1
      omega
    · refine dec64_none bs fun n s hn => ?_
      rw [hdec] at hn
      by_cases h128 : 128 ≤ x
      · rw [lift_on _ _ _ _ h128] at hn
        have := (lift_big _ _ _ _ _ hn).1
        have e : x.toNat % 128 = (x - 128).toNat := by omega
        rw [e] at hP
        omega
      · rw [lift_last k acc x _ hx.1 (by omega)] at hn
        split at hn
        · cases hn
        · simp only [Option.some.injEq, Prod.mk.injEq] at hn
          have e : x.toNat % 128 = x.toNat := by omega
          rw [e, Nat.mul_comm] at hP
          omega

set_option maxHeartbeats 1000000 in
set_option maxRecDepth 100000 in
theorem first_any (v : Value) (bs : List Int) (w : World) (hv : Ints .u8 w v bs) (hbb : ∀ b ∈ bs, 0 ≤ b ∧ b < 256) :
    Calls Tryz.prog 141 #[v] w fun e w' => e = .returned (.tuple #[.int .u64 (numOf bs), .int .i64 (sizeOf64 bs)]) ∧ w = w' := by
  rcases hv with ⟨a, cap, rfl, rfl, hm, _⟩ | ⟨b, off, cap, rfl, h0, h1, hm, hc⟩
  · go_enter Tryz.func141, Tryz.ntmps141
    go_wp2
    refine wp_loop_rounds 1 ?_
    rw [rounds_succ]
    go_wp2
    go_ret2
    exact ⟨rfl, rfl⟩
  · unfold maxLen at hm
    obtain ⟨L, hL, hL1, hL2⟩ : ∃ L : Nat, ((bs.length ≤ 10 ∧ L = bs.length) ∨ (10 < bs.length ∧ L = 10)) ∧ L ≤ bs.length ∧ L ≤ 10 := by
      by_cases h : bs.length ≤ 10
      · exact ⟨bs.length, .inl ⟨h, rfl⟩, by omega, by omega⟩
      · exact ⟨10, .inr ⟨by omega, rfl⟩, by omega, by omega⟩
    have HBB := Lib.hid hbb
    clear hbb
    rcases hL with ⟨hlen, rfl⟩ | ⟨hlen, rfl⟩
    all_goals
      go_enter Tryz.func141, Tryz.ntmps141
      go_wp2
      go_loop [2, 3, 14] (fun n s i => ∃ (k acc : Nat), i = .int .i64 k ∧ n = .int .u64 acc ∧ s = .int .i64 0 ∧ k ≤ 10 ∧ k ≤ bs.length ∧ Hid (acc < 128 ^ k) ∧ Fits acc ∧ Hid (dec bs = lift k acc (dec (bs.drop k)))) (fun _ _ i => 10 - (intOf i).toNat)
      case atStart => exact ⟨0, 0, rfl, rfl, rfl, by omega, by omega, by simp [Hid], by simp [Fits], by simp [Hid, lift_start]⟩
      case round =>
        obtain ⟨k, acc, rfl, rfl, rfl, hk, hkl, hacc, hfit, hdec⟩ := hrel
        by_cases hlt : k < bs.length ∧ k < 10
        · obtain ⟨hlt, hlt10⟩ := hlt
          have hcx := hc k hlt
          clear hc
          have HF := Lib.hid (first_round bs k acc HBB.out hlt hlt10 hacc.out hdec.out)
          have hx0 := (HBB.out _ (List.getElem_mem hlt))
          have hxe : bs[k] = bs.getD k 0 := by simp [List.getD, hlt]
          rw [hxe] at hx0
          clear hxe
          generalize bs.getD k 0 = x at hcx HF hx0
          obtain ⟨D, S, hD, hS, hcases⟩ := HF.out
          clear HF
          rcases hcases with ⟨hne, hnone⟩ | ⟨R, heq, hR, hfitR, hcase⟩
          · have HN := Lib.hid (first_none hnone)
            clear hnone
            go_wp2
            go_ret2
            rw [HN.out.1, HN.out.2]
            exact ⟨rfl, rfl⟩
          · rcases hcase with ⟨hx, haccR, hdecR⟩ | ⟨hx, hx2, hx3, hnone⟩ | ⟨hx, hx2, hsome⟩ | ⟨hx, hx2, hx3, hsome⟩
            · go_wp2
              go_round
              case rel => exact ⟨k + 1, R, by go_num, rfl, rfl, by omega, by omega, haccR, hfitR, hdecR⟩
              case measure => simp [intOf]; omega
            · have HN := Lib.hid (first_none hnone.out)
              go_wp2
              go_ret2
              rw [HN.out.1, HN.out.2]
              exact ⟨rfl, rfl⟩
            · have HN := Lib.hid (first_some hsome.out)
              go_wp2
              go_ret2
              rw [HN.out.1, HN.out.2]
              exact ⟨by go_num, rfl⟩
            · have HN := Lib.hid (first_some hsome.out)
              go_wp2
              go_ret2
              rw [HN.out.1, HN.out.2]
              exact ⟨by go_num, rfl⟩
        · have HN := Lib.hid (first_none (first_end bs k acc hk hkl hlt hdec.out))
          go_wp2
          go_ret2
          rw [HN.out.1, HN.out.2]
          exact ⟨rfl, rfl⟩
end Go.Proofs.YtohgopibimgjfaaGreat

/- V5 -/
namespace Go.Proofs.YtohgopibimgjfaaGreat
open Go.RowKit
set_option linter.unusedVariables false

def uErr (bs : List Int) (p : Int) : Int := if p < 0 ∨ (bs.length : Int) < p then 5 else if dec64 (bs.drop p.toNat) = none then 3 else 0
def uNum (bs : List Int) (p : Int) : Nat := if p < 0 ∨ (bs.length : Int) < p then 0 else numOf (bs.drop p.toNat)
def uNxt (bs : List Int) (p : Int) : Nat := if p < 0 ∨ (bs.length : Int) < p then 0 else if dec64 (bs.drop p.toNat) = none then 0 else p.toNat + sizeOf64 (bs.drop p.toNat)

theorem u_out {bs : List Int} {p : Int} (h : p < 0 ∨ (bs.length : Int) < p) : uErr bs p = 5 ∧ uNum bs p = 0 ∧ uNxt bs p = 0 := by simp [uErr, uNum, uNxt, h]
theorem u_none {bs : List Int} {p : Nat} (h : p ≤ bs.length) (hd : dec64 (bs.drop p) = none) : uErr bs p = 3 ∧ uNum bs p = 0 ∧ uNxt bs p = 0 := by
  have h1 : ¬ ((p : Int) < 0 ∨ (bs.length : Int) < p) := by omega
  unfold uErr uNum uNxt
  rw [if_neg h1, if_neg h1, if_neg h1, Int.toNat_natCast, if_pos hd, if_pos hd, (first_none hd).1]
  exact ⟨rfl, rfl, rfl⟩
theorem u_some {bs : List Int} {p n s : Nat} (h : p ≤ bs.length) (hd : dec64 (bs.drop p) = some (n, s)) : uErr bs p = 0 ∧ uNum bs p = n ∧ uNxt bs p = p + s := by
  have h1 : ¬ ((p : Int) < 0 ∨ (bs.length : Int) < p) := by omega
  have h2 : ¬ dec64 (bs.drop p) = none := by rw [hd]; simp
  unfold uErr uNum uNxt
  rw [if_neg h1, if_neg h1, if_neg h1, Int.toNat_natCast, if_neg h2, if_neg h2, (first_some hd).1, (first_some hd).2]
  exact ⟨rfl, rfl, rfl⟩
theorem bytes_drop {bs : List Int} (p : Nat) (hbb : ∀ b ∈ bs, 0 ≤ b ∧ b < 256) : ∀ b ∈ bs.drop p, 0 ≤ b ∧ b < 256 := fun b hb => hbb b (List.mem_of_mem_drop hb)

def UintIs (bs : List Int) (p : Int) (w : World) (e : Ending) (w' : World) : Prop := e = .returned (.tuple #[.int .u64 (uNum bs p), .int .i64 (uNxt bs p), .int .i64 (uErr bs p)]) ∧ w = w'

theorem uintIs {bs : List Int} {p : Int} {w : World} {n x : Nat} {e : Int} (h : uErr bs p = e ∧ uNum bs p = n ∧ uNxt bs p = x) : UintIs bs p w (.returned (.tuple #[.int .u64 n, .int .i64 x, .int .i64 e])) w := by
  unfold UintIs
  rw [h.1, h.2.1, h.2.2]
  exact ⟨rfl, rfl⟩

set_option maxHeartbeats 1000000 in
set_option maxRecDepth 100000 in
theorem uint_any (v : Value) (bs : List Int) (p : Int) (w : World) (hv : Ints .u8 w v bs) (hbb : ∀ b ∈ bs, 0 ≤ b ∧ b < 256) (hl : bs.length ≤ 150000000) :
    Calls Tryz.prog 128 #[v, .int .i64 p] w (UintIs bs p w) := by
  have HV := Lib.hid hv
  obtain ⟨a, cap, rfl⟩ := hv.shape
  clear hv
  by_cases h0 : p < 0
  · have HU := Lib.hid (uintIs (w := w) (u_out (bs := bs) (.inl h0)))
    go_enter Tryz.func128, Tryz.ntmps128
    go_wp2
    go_ret3
    exact HU.out
  by_cases h1 : (bs.length : Int) < p
  · have HU := Lib.hid (uintIs (w := w) (u_out (bs := bs) (.inr h1)))
    go_enter Tryz.func128, Tryz.ntmps128
    go_wp2
    go_ret3
    exact HU.out
  obtain ⟨q, rfl⟩ : ∃ q : Nat, p = q := ⟨p.toNat, by omega⟩
  have hq : q ≤ bs.length := by omega
  have hT := Ints.tail HV.out hq
  have hb := bytes_drop q hbb
  clear h0 h1
  by_cases hcq : cap = q
  all_goals
    first
      | (have F := first_any _ _ w (hT.1 hcq) hb)
      | (have F := first_any _ _ w (hT.2 hcq) hb)
    have HBB := Lib.hid hbb
    clear hT hb hbb
    have hcl : (q : Int) ≤ cap := by
      obtain ⟨_, _, hh⟩ := HV.out.shape
      rcases HV.out with ⟨a', cap', hv', hx, hm, hn⟩ | ⟨b, off, cap', hv', _, hc, hm, _⟩
      · subst hx; simp at hq; omega
      · injection hv' with e1 e2 e3; omega
    cases hd : dec64 (bs.drop q) with
    | none =>
      have HU := Lib.hid (uintIs (w := w) (u_none hq hd))
      rw [(first_none hd).1, (first_none hd).2] at F
      clear hd
      go_enter Tryz.func128, Tryz.ntmps128
      go_wp2_with (go_at_call 141; refine F.mono ?_; rintro e w' ⟨rfl, rfl⟩)
      go_ret3
      exact HU.out
    | some ns =>
      obtain ⟨n, s⟩ := ns
      have hs := dec64_take _ (bytes_drop q HBB.out) n s hd
      have hsl : s ≤ 10 := hs.2.2.2.2.2
      have hs1 : ((s : Int) == 0) = false := by rw [beq_eq_false_iff_ne]; omega
      clear hs
      have HU := Lib.hid (uintIs (w := w) (u_some hq hd))
      rw [(first_some hd).1, (first_some hd).2] at F
      clear hd
      go_enter Tryz.func128, Tryz.ntmps128
      go_wp2_with (go_at_call 141; refine F.mono ?_; rintro e w' ⟨rfl, rfl⟩)
      go_ret3
      exact HU.out
end Go.Proofs.YtohgopibimgjfaaGreat

/- V6 -/
namespace Go.Proofs.YtohgopibimgjfaaGreat
open Go.RowKit
set_option linter.unusedVariables false

theorem u_cases {bs : List Int} {p : Int} (hbb : ∀ b ∈ bs, 0 ≤ b ∧ b < 256) :
    (uErr bs p = 0 ∧ Fits (uNum bs p) ∧ uNxt bs p ≤ bs.length) ∨ ((uErr bs p = 5 ∨ uErr bs p = 3) ∧ uNum bs p = 0 ∧ uNxt bs p = 0) := by
  by_cases h : p < 0 ∨ (bs.length : Int) < p
  · have := u_out h
    exact .inr ⟨.inl this.1, this.2.1, this.2.2⟩
  · obtain ⟨q, rfl⟩ : ∃ q : Nat, p = q := ⟨p.toNat, by omega⟩
    have hq : q ≤ bs.length := by omega
    cases hd : dec64 (bs.drop q) with
    | none =>
      have := u_none hq hd
      exact .inr ⟨.inr this.1, this.2.1, this.2.2⟩
    | some ns =>
      obtain ⟨n, s⟩ := ns
      have := u_some hq hd
      have hs := dec64_take _ (bytes_drop q hbb) n s hd
      rw [List.length_drop] at hs
      refine .inl ⟨this.1, ?_, ?_⟩
      · rw [this.2.1]; exact hs.2.2.2.2.1
      · rw [this.2.2]; omega

def IntIs (bs : List Int) (p : Int) (w : World) (e : Ending) (w' : World) : Prop := e = .returned (.tuple #[.int .i64 (zag (uNum bs p)), .int .i64 (uNxt bs p), .int .i64 (uErr bs p)]) ∧ w = w'

set_option maxHeartbeats 1000000 in
set_option maxRecDepth 100000 in
theorem wint_any (v : Value) (bs : List Int) (p : Int) (w : World) (hv : Ints .u8 w v bs) (hbb : ∀ b ∈ bs, 0 ≤ b ∧ b < 256) (hl : bs.length ≤ 150000000) :
    Calls Tryz.prog 142 #[v, .int .i64 p] w (IntIs bs p w) := by
  have U := uint_any v bs p w hv hbb hl
  have hc := u_cases (p := p) hbb
  unfold UintIs at U
  unfold IntIs
  obtain ⟨a, cap, rfl⟩ := hv.shape
  generalize uErr bs p = E at *
  generalize uNum bs p = N at *
  generalize uNxt bs p = X at *
  clear hv hbb
  rcases hc with ⟨rfl, hN, hX⟩ | ⟨hE, rfl, rfl⟩
  · have W := wholeOf_any N w hN
    clear hN
    go_enter Tryz.func142, Tryz.ntmps142
    go_wp2_with (go_at_call 128; refine U.mono ?_; rintro e w' ⟨rfl, rfl⟩)
    go_wp2_with (go_at_call 153; refine W.mono ?_; rintro e w' ⟨rfl, rfl⟩)
    go_ret3
    exact ⟨rfl, rfl⟩
  · have hE0 : (E == 0) = false := by rw [beq_eq_false_iff_ne]; omega
    have hE1 : (E != 0) = true := by rw [bne_iff_ne]; omega
    clear hE
    have hz : zag 0 = 0 := rfl
    rw [hz]
    clear hz
    go_enter Tryz.func142, Tryz.ntmps142
    go_wp2_with (go_at_call 128; refine U.mono ?_; rintro e w' ⟨rfl, rfl⟩)
    go_ret3
    exact ⟨rfl, rfl⟩

def bErr (bs : List Int) (p m : Int) : Int := if uErr bs p = 0 then if m < 0 ∨ m < uNum bs p ∨ (bs.length : Int) - uNxt bs p < uNum bs p then 3 else 0 else uErr bs p
def bNxt (bs : List Int) (p m : Int) : Nat := if bErr bs p m = 0 then uNxt bs p + uNum bs p else 0
def bOut (bs : List Int) (p m : Int) : List Int := if bErr bs p m = 0 then (bs.take (uNxt bs p + uNum bs p)).drop (uNxt bs p) else []

theorem u_bad {bs : List Int} {p m : Int} (h : uErr bs p = 5 ∨ uErr bs p = 3) : bErr bs p m = uErr bs p := by
  unfold bErr
  rw [if_neg (by omega)]
def BytesIs (bs : List Int) (p m : Int) (w : World) (e : Ending) (w' : World) : Prop :=
  ∃ v, e = .returned (.tuple #[v, .int .i64 (bNxt bs p m), .int .i64 (bErr bs p m)]) ∧ w'.ownsRow w.heap.size 5 1 v (bOut bs p m).length ((bOut bs p m).map (Value.int .u8)) ∧ Below w.heap.size w w'

theorem bytes_bad {bs : List Int} {p m : Int} {w w' : World} {E : Int} (hE : E ≠ 0) (h : bErr bs p m = E) (hb : Below w.heap.size w w') : BytesIs bs p m w (.returned (.tuple #[.slice none 0 0, .int .i64 0, .int .i64 E])) w' := by
  unfold BytesIs bNxt bOut
  rw [h, if_neg hE, if_neg hE]
  exact ⟨_, rfl, World.ownsRow_nil _ _ _ _, hb⟩

set_option maxHeartbeats 1000000 in
set_option maxRecDepth 100000 in
theorem bytes_any (v : Value) (bs : List Int) (p m : Int) (w : World) (hv : Ints .u8 w v bs) (hbb : ∀ b ∈ bs, 0 ≤ b ∧ b < 256) (hl : bs.length ≤ 50000000) (hm63 : m ≤ 9223372036854775807) :
    Calls Tryz.prog 133 #[v, .int .i64 p, .int .i64 m] w (BytesIs bs p m w) := by
  have U := uint_any v bs p w hv hbb (by omega)
  have hc := u_cases (p := p) hbb
  have HV := Lib.hid hv
  obtain ⟨a, cap, rfl⟩ := hv.shape
  clear hv hbb
  unfold UintIs at U
  rcases hc with ⟨hE, hN, hX⟩ | ⟨hE, hN, hX⟩
  · rw [hE] at U
    by_cases hbad : m < 0 ∨ m < uNum bs p ∨ (bs.length : Int) - uNxt bs p < uNum bs p
    · have HB : Hid (∀ w', Below w.heap.size w w' → BytesIs bs p m w (.returned (.tuple #[.slice none 0 0, .int .i64 0, .int .i64 3])) w') := fun w' hb =>
        bytes_bad (by omega) (by unfold bErr; rw [if_pos hE, if_pos hbad]) hb
      generalize uNum bs p = N at *
      generalize uNxt bs p = X at *
      clear hE hN
      have hm0 := hbad
      by_cases h0 : m < 0
      · clear hbad hm0
        go_enter Tryz.func133, Tryz.ntmps133
        go_wp2_with (go_at_call 128; refine U.mono ?_; rintro e w' ⟨rfl, rfl⟩)
        go_ret3
        exact HB.out _ (Below.refl _ _)
      by_cases h1 : m < N
      · clear hbad hm0
        go_enter Tryz.func133, Tryz.ntmps133
        go_wp2_with (go_at_call 128; refine U.mono ?_; rintro e w' ⟨rfl, rfl⟩)
        go_ret3
        exact HB.out _ (Below.refl _ _)
      have h2 : (bs.length : Int) - X < N := by omega
      clear hbad hm0
      go_enter Tryz.func133, Tryz.ntmps133
      go_wp2_with (go_at_call 128; refine U.mono ?_; rintro e w' ⟨rfl, rfl⟩)
      go_ret3
      exact HB.out _ (Below.refl _ _)
    · have hz : bErr bs p m = 0 := by unfold bErr; rw [if_pos hE, if_neg hbad]
      unfold BytesIs bNxt bOut
      rw [hz, if_pos rfl, if_pos rfl]
      clear hz hE hN
      generalize uNum bs p = N at *
      generalize uNxt bs p = X at *
      have hM := Ints.mid (lo := X) (hi := X + N) HV.out (by omega) (by omega)
      rw [Nat.add_sub_cancel_left] at hM
      have hol : ((bs.take (X + N)).drop X).length ≤ 50000000 := by rw [List.length_drop, List.length_take]; omega
      generalize (bs.take (X + N)).drop X = os at *
      have h0 : ¬ m < 0 := by omega
      have h1 : ¬ m < N := by omega
      have h2 : ¬ (bs.length : Int) - X < N := by omega
      have hcl : (bs.length : Int) ≤ cap := by
        rcases HV.out with ⟨a', cap', hv', hx, hm, hn⟩ | ⟨b, off, cap', hv', _, hc, hm, _⟩
        · subst hx; simp
        · injection hv' with e1 e2 e3; omega
      clear hbad
      by_cases hcq : cap = X
      · have C := copied_any _ os 0 w (hM.1 hcq) hol (by omega) (by omega)
        subst hcq
        clear hM
        go_enter Tryz.func133, Tryz.ntmps133
        go_wp2_with (go_at_call 128; refine U.mono ?_; rintro e w' ⟨rfl, rfl⟩)
        go_wp2_with (go_at_call 122; refine C.mono ?_)
        rintro e w1 ⟨v1, rfl, hown, hb⟩
        go_wp2
        go_ret3
        exact ⟨v1, rfl, hown, hb⟩
      · have C := copied_any _ os 0 w (hM.2 hcq) hol (by omega) (by omega)
        clear hM
        go_enter Tryz.func133, Tryz.ntmps133
        go_wp2_with (go_at_call 128; refine U.mono ?_; rintro e w' ⟨rfl, rfl⟩)
        go_wp2_with (go_at_call 122; refine C.mono ?_)
        rintro e w1 ⟨v1, rfl, hown, hb⟩
        go_wp2
        go_ret3
        exact ⟨v1, rfl, hown, hb⟩
  · have hE0 : (uErr bs p == 0) = false := by rw [beq_eq_false_iff_ne]; omega
    have hE1 : (uErr bs p != 0) = true := by rw [bne_iff_ne]; omega
    have HB : Hid (∀ w', Below w.heap.size w w' → BytesIs bs p m w (.returned (.tuple #[.slice none 0 0, .int .i64 0, .int .i64 (uErr bs p)])) w') := fun w' hb =>
      bytes_bad (by omega) (u_bad hE) hb
    rw [hN, hX] at U
    generalize uErr bs p = E at *
    clear hE hN hX
    go_enter Tryz.func133, Tryz.ntmps133
    go_wp2_with (go_at_call 128; refine U.mono ?_; rintro e w' ⟨rfl, rfl⟩)
    go_ret3
    exact HB.out _ (Below.refl _ _)
end Go.Proofs.YtohgopibimgjfaaGreat

/- V7 -/
namespace Go.Proofs.YtohgopibimgjfaaGreat
open Go.RowKit
set_option linter.unusedVariables false

theorem nums_eq : ∀ (a b : List Int), (∀ x ∈ a, 0 ≤ x ∧ x < 256) → (∀ x ∈ b, 0 ≤ x ∧ x < 256) → a.map (fun n => UInt8.ofNat n.toNat) = b.map (fun n => UInt8.ofNat n.toNat) → a = b
  | [], [], _, _, _ => rfl
  | [], y :: t, _, _, h => by simp at h
  | x :: s, [], _, _, h => by simp at h
  | x :: s, y :: t, ha, hb, h => by
    simp only [List.map_cons, List.cons.injEq] at h
    have h1 := ha x (List.mem_cons_self ..)
    have h2 := hb y (List.mem_cons_self ..)
    have e := congrArg UInt8.toNat h.1
    simp only [UInt8.toNat_ofNat'] at e
    have : x = y := by omega
    rw [this, nums_eq s t (fun z hz => ha z (List.mem_cons_of_mem _ hz)) (fun z hz => hb z (List.mem_cons_of_mem _ hz)) h.2]
theorem str_eq {a b : List Int} (ha : ∀ x ∈ a, 0 ≤ x ∧ x < 256) (hb : ∀ x ∈ b, 0 ≤ x ∧ x < 256) (h : strOfNums a = strOfNums b) : a = b := by
  refine nums_eq a b ha hb ?_
  have := congrArg (fun s : ByteArray => s.data.toList) h
  simpa [strOfNums] using this

theorem ref_last (T : List Int) (k acc : Nat) (x : Int) (hT : ∀ b ∈ T, 0 ≤ b ∧ b < 256) (hk : k < T.length) (hx : T.getD k 0 = x) (hlow : x < 128) (hdec : dec T = lift k acc (dec (T.drop k))) :
    (strOfNums (form ((acc + x.toNat % 128 * 128 ^ k) % 18446744073709551616)) = strOfNums (T.take (k + 1)) ∧ dec64 T = some ((acc + x.toNat % 128 * 128 ^ k) % 18446744073709551616, k + 1)) ∨
    (strOfNums (form ((acc + x.toNat % 128 * 128 ^ k) % 18446744073709551616)) ≠ strOfNums (T.take (k + 1)) ∧ dec64 T = none) := by
  have hx0 := hT T[k] (List.getElem_mem hk)
  have hxe : T[k] = T.getD k 0 := by simp [List.getD, hk]
  rw [hxe, hx] at hx0
  generalize hm : (acc + x.toNat % 128 * 128 ^ k) % 18446744073709551616 = m
  have hm64 : m < 18446744073709551616 := by rw [← hm]; exact Nat.mod_lt _ (by omega)
  by_cases he : form m = T.take (k + 1)
  · left
    refine ⟨by rw [he], ?_⟩
    have h1 : T = form m ++ T.drop (k + 1) := by rw [he, List.take_append_drop]
    have hl := congrArg List.length he
    rw [List.length_take] at hl
    rw [h1, dec64_form m _ hm64]
    congr 2
    omega
  · right
    refine ⟨fun hs => he (str_eq (form_bytes m) (fun b hb => hT b (List.mem_of_mem_take hb)) hs), ?_⟩
    cases hd : dec64 T with
    | none => rfl
    | some ns =>
      obtain ⟨n, s⟩ := ns
      exfalso
      obtain ⟨h1, h2, h3, h4, h5, h6⟩ := dec64_take T hT n s hd
      have hd2 : dec T = some (n, s) := by
        have e : T = form n ++ T.drop s := by rw [h1, List.take_append_drop]
        rw [e, dec_form, ← h2]
      rw [drop_cons T k hk, hx, lift_last k acc x _ hx0.1 hlow, hd2] at hdec
      split at hdec
      · cases hdec
      · simp only [Option.some.injEq, Prod.mk.injEq] at hdec
        have e : x.toNat % 128 = x.toNat := by omega
        have : n = m := by
          rw [← hm, e, Nat.mul_comm, ← hdec.1, Nat.mod_eq_of_lt h5]
        rw [this, hdec.2] at h1
        exact he h1

theorem ref_next (k acc D n s : Nat) (hn : n = acc % 18446744073709551616) (hs : s = 128 ^ k % 18446744073709551616) (hD : D < 128) :
    IntKind.u64.wrap ((D : Int) * (s : Int)) = ((D * 128 ^ k % 18446744073709551616 : Nat) : Int) ∧
    IntKind.u64.wrap ((n : Int) + ((D * 128 ^ k % 18446744073709551616 : Nat) : Int)) = (((acc + D * 128 ^ k) % 18446744073709551616 : Nat) : Int) ∧
    IntKind.u64.wrap ((s : Int) * 128) = ((128 ^ (k + 1) % 18446744073709551616 : Nat) : Int) := by
  rw [IntKind.wrap_u64, IntKind.wrap_u64, IntKind.wrap_u64, ← Int.natCast_mul]
  refine ⟨?_, ?_, ?_⟩
  · rw [hs, ← Nat.mul_mod_mod D (128 ^ k)]; omega
  · rw [hn]; omega
  · rw [hs, Nat.pow_succ]; omega
end Go.Proofs.YtohgopibimgjfaaGreat

/- V8 -/
namespace Go.Proofs.YtohgopibimgjfaaGreat
open Go.RowKit
set_option linter.unusedVariables false

def RUintIs (bs : List Int) (p : Int) (w : World) (e : Ending) (w' : World) : Prop := e = .returned (.tuple #[.int .u64 (uNum bs p), .int .i64 (uNxt bs p), .int .i64 (uErr bs p)]) ∧ Below w.heap.size w w'
theorem ruintIs {bs : List Int} {p : Int} {w w' : World} {n x : Nat} {e : Int} (h : uErr bs p = e ∧ uNum bs p = n ∧ uNxt bs p = x) (hb : Below w.heap.size w w') : RUintIs bs p w (.returned (.tuple #[.int .u64 n, .int .i64 x, .int .i64 e])) w' := by
  unfold RUintIs
  rw [h.1, h.2.1, h.2.2]
  exact ⟨rfl, hb⟩

set_option maxHeartbeats 2000000 in
set_option maxRecDepth 100000 in
theorem ruint_any (v : Value) (bs : List Int) (p : Int) (w : World) (hv : Ints .u8 w v bs) (hbb : ∀ b ∈ bs, 0 ≤ b ∧ b < 256) (hl : bs.length ≤ 150000000) :
    Calls Tryz.prog 69 #[v, .int .i64 p] w (RUintIs bs p w) := by
  have HV := Lib.hid hv
  obtain ⟨a, cap, rfl⟩ := hv.shape
  clear hv
  by_cases h0 : p < 0
  · have HU := Lib.hid (ruintIs (w := w) (u_out (bs := bs) (.inl h0)) (Below.refl _ _))
    go_enter Tryz.func69, Tryz.ntmps69
    go_wp2
    go_ret3
    exact HU.out
  by_cases h1 : (bs.length : Int) < p
  · have HU := Lib.hid (ruintIs (w := w) (u_out (bs := bs) (.inr h1)) (Below.refl _ _))
    go_enter Tryz.func69, Tryz.ntmps69
    go_wp2
    go_ret3
    exact HU.out
  obtain ⟨q, rfl⟩ : ∃ q : Nat, p = q := ⟨p.toNat, by omega⟩
  have hq : q ≤ bs.length := by omega
  have HT := Lib.hid (bytes_drop q hbb)
  have hTl : (bs.drop q).length = bs.length - q := List.length_drop
  have HTG : Hid (∀ j, (bs.drop q).getD j 0 = bs.getD (q + j) 0) := fun j => by simp [List.getD]
  have HTT : Hid (∀ j, (bs.take (q + j)).drop q = (bs.drop q).take j) := fun j => by rw [List.drop_take]; congr 1; omega
  have HUN : Hid (∀ w', Below w.heap.size w w' → dec64 (bs.drop q) = none → RUintIs bs q w (.returned (.tuple #[.int .u64 0, .int .i64 0, .int .i64 3])) w') := fun w' hb hd => ruintIs (u_none hq hd) hb
  have HUS : Hid (∀ w' n s, Below w.heap.size w w' → dec64 (bs.drop q) = some (n, s) → RUintIs bs q w (.returned (.tuple #[.int .u64 n, .int .i64 (q + s : Nat), .int .i64 0])) w') := fun w' n s hb hd => ruintIs (u_some hq hd) hb
  have hcl : (bs.length : Int) ≤ cap := by
    rcases HV.out with ⟨a', cap', hv', hx, hm, hn⟩ | ⟨b, off, cap', hv', _, hc, hm, _⟩
    · subst hx; simp
    · injection hv' with e1 e2 e3; omega
  generalize bs.drop q = T at HT hTl HTG HTT HUN HUS
  have HTL := Lib.hid hTl
  have z1 : decide ((q : Int) < 0) = false := by rw [decide_eq_false_iff_not]; omega
  have z2 : decide (bs.length < q) = false := by rw [decide_eq_false_iff_not]; omega
  clear h0 h1 hbb hTl
  go_enter Tryz.func69, Tryz.ntmps69
  go_wp2
  go_loop [7, 8, 9] (fun n s i => ∃ (k acc n' s' : Nat), i = .int .i64 k ∧ n = .int .u64 n' ∧ s = .int .u64 s' ∧ Hid (n' = acc % 18446744073709551616) ∧ Hid (s' = 128 ^ k % 18446744073709551616) ∧ k ≤ 10 ∧ q + k ≤ bs.length ∧ Hid (dec T = lift k acc (dec (T.drop k)))) (fun _ _ i => 10 - (intOf i).toNat)
  case atStart => exact ⟨0, 0, 0, 1, rfl, rfl, rfl, rfl, rfl, by omega, by omega, by simp [Hid, lift_start]⟩
  case round =>
    obtain ⟨k, acc, n', s', rfl, rfl, rfl, hn, hs, hk, hkl, hdec⟩ := hrel
    by_cases hlt : q + k < bs.length ∧ k < 10
    · obtain ⟨hlt, hlt10⟩ := hlt
      obtain ⟨b, off, ha, -, -, hm, hc⟩ := HV.out.opened (by omega)
      subst ha
      have hcx := hc (q + k) hlt
      clear hc
      have hkT : k < T.length := by have := HTL.out; omega
      have hxr := HT.out _ (List.getElem_mem hkT)
      have hxe : T[k] = bs.getD (q + k) 0 := by rw [← HTG.out k]; simp [List.getD, hkT]
      have hdl := drop_cons T k hkT
      rw [hxe] at hxr
      have hxg := HTG.out k
      rw [hxg] at hdl
      generalize bs.getD (q + k) 0 = x at hcx hxr hdl hxg
      obtain ⟨R1, R2, R3⟩ := ref_next k acc (x.toNat % 128) n' s' hn.out hs.out (by omega)
      have hD : x % 128 = ((x.toNat % 128 : Nat) : Int) := by omega
      have hw7 : x.tmod 128 = x % 128 := Int.tmod_eq_emod_of_nonneg hxr.1
      by_cases hlow : x < 128
      · have HL := Lib.hid (ref_last T k acc x HT.out hkT hxg hlow hdec.out)
        have hfm : Fits ((acc + x.toNat % 128 * 128 ^ k) % 18446744073709551616) := Nat.mod_lt _ (by omega)
        generalize (acc + x.toNat % 128 * 128 ^ k) % 18446744073709551616 = m at *
        generalize x.toNat % 128 * 128 ^ k % 18446744073709551616 = u at *
        generalize 128 ^ (k + 1) % 18446744073709551616 = u3 at *
        generalize x.toNat % 128 = D at *
        have HD := Lib.hid hD
        have F := wform_any m w hfm
        have hcq : ¬ cap = q := by omega
        have hM := (Ints.mid (lo := q) (hi := q + (k + 1)) HV.out (by omega) (by omega)).2 hcq
        rw [HTT.out (k + 1), Nat.add_sub_cancel_left, Option.map_some, Go.WideShapes.add_plain] at hM
        have HM := Lib.hid hM
        clear hM
        go_wp2_with (go_at_call 58; refine F.mono ?_)
        rintro e w1 ⟨v1, rfl, hown, hb⟩
        have hc1 := fun n => conv_str (P := Tryz.prog) 31 9 5 Tryz.underlying31 Tryz.underlying5 Tryz.underlying9 _ _ _ ((Ints.of_owns hown).1.below (blw_drewN (Below.refl _ _) n))
        have hc2 := fun n => conv_str (P := Tryz.prog) 31 9 5 Tryz.underlying31 Tryz.underlying5 Tryz.underlying9 _ _ _ ((HM.out.below hb).below (blw_drewN (Below.refl _ _) n))
        clear hown F
        generalize hsa : strOfNums (form m) = sa at *
        generalize hsb : strOfNums (T.take (k + 1)) = sb at *
        have e1 : IntKind.i64.wrap ((q : Int) + k) = (q : Int) + k := IntWalk.i64_in _ (by omega)
        have e2 : IntKind.i64.wrap ((q : Int) + k + 1) = (q : Int) + k + 1 := IntWalk.i64_in _ (by omega)
        have e3 : ((q : Int) + k + 1).toNat = q + (k + 1) := by omega
        have e4 : (q : Int) + k + 1 ≤ cap := by omega
        have e5 : (q : Int) ≤ (q : Int) + k + 1 := by omega
        have e6 : (0 : Int) ≤ (q : Int) + k + 1 := by omega
        have e7 : q + (k + 1) - q = k + 1 := by omega
        rcases HL.out with ⟨he, hd⟩ | ⟨hne, hd⟩
        · subst he
          clear HL
          have HE := Lib.hid (fun n => HUS.out (w1.drewN n) m (k + 1) (blw_drewN hb n) hd)
          clear hd hsa hsb
          go_wp2
          go_quiet (fail)
          go_wp2
          go_ret3
          have := HE.out nq
          simpa [Int.natCast_add, Int.add_assoc] using this
        · have q1 := str_ne hne
          clear HL
          have HE := Lib.hid (fun n => HUN.out (w1.drewN n) (blw_drewN hb n) hd)
          clear hd hne hsa hsb
          go_wp2
          go_quiet (fail)
          go_wp2
          go_ret3
          exact HE.out nq
      · have e : (x - 128).toNat = x.toNat % 128 := by omega
        have HDN : Hid (dec T = lift (k + 1) (acc + x.toNat % 128 * 128 ^ k) (dec (T.drop (k + 1)))) := by
          show _ = _
          rw [hdec.out, hdl, lift_on _ _ _ _ (by omega), e]
        have HM : Hid ((acc + x.toNat % 128 * 128 ^ k) % 18446744073709551616 = (acc + x.toNat % 128 * 128 ^ k) % 18446744073709551616) := rfl
        have HS : Hid (128 ^ (k + 1) % 18446744073709551616 = 128 ^ (k + 1) % 18446744073709551616) := rfl
        clear e hdl hxg hxe
        obtain ⟨acc2, h2⟩ : ∃ acc2, acc + x.toNat % 128 * 128 ^ k = acc2 := ⟨_, rfl⟩
        rw [h2] at HDN HM R2
        clear h2
        have HM2 : ∃ m, acc2 % 18446744073709551616 = m ∧ Hid (m = acc2 % 18446744073709551616) := ⟨_, rfl, rfl⟩
        obtain ⟨m, hm2, HM2⟩ := HM2
        have HS2 : ∃ u, 128 ^ (k + 1) % 18446744073709551616 = u ∧ Hid (u = 128 ^ (k + 1) % 18446744073709551616) := ⟨_, rfl, rfl⟩
        obtain ⟨u3, hu2, HS2⟩ := HS2
        rw [hm2] at R2
        rw [hu2] at R3
        clear hm2 hu2 HM HS
        generalize x.toNat % 128 * 128 ^ k % 18446744073709551616 = u at *
        generalize x.toNat % 128 = D at *
        have HD := Lib.hid hD
        go_wp2
        go_round
        case rel => exact ⟨k + 1, acc2, m, u3, by go_num, rfl, rfl, HM2, HS2, by omega, by omega, HDN⟩
        case measure => simp [intOf]; omega
    · have HN := Lib.hid (HUN.out w (Below.refl _ _) (first_end T k acc hk (by have := HTL.out; omega) (by have := HTL.out; omega) hdec.out))
      by_cases h10 : k < 10
      · have hlt2 : ¬ (q : Int) + k < bs.length := by omega
        clear hlt
        go_wp2
        go_ret3
        exact HN.out
      · clear hlt
        go_wp2
        go_ret3
        exact HN.out
end Go.Proofs.YtohgopibimgjfaaGreat

/- V9 -/
namespace Go.Proofs.YtohgopibimgjfaaGreat
open Go.RowKit
set_option linter.unusedVariables false

def WTold (n x : Nat) (E : Int) (w : World) (e : Ending) (w' : World) : Prop := e = .returned (.tuple #[.int .u64 n, .int .i64 x, .int .i64 E]) ∧ Below w.heap.size w w'

set_option maxHeartbeats 2000000 in
set_option maxRecDepth 100000 in
theorem rbytes_any (v : Value) (bs : List Int) (p m : Int) (w : World) (hv : Ints .u8 w v bs) (hbb : ∀ b ∈ bs, 0 ≤ b ∧ b < 256) (hl : bs.length ≤ 50000000) (hm63 : m ≤ 9223372036854775807) :
    Calls Tryz.prog 72 #[v, .int .i64 p, .int .i64 m] w (BytesIs bs p m w) := by
  obtain ⟨i0, hi, hz0, hz1, hz2⟩ := info_parts info8
  have U : Calls Tryz.prog 69 #[v, .int .i64 p] w (WTold (uNum bs p) (uNxt bs p) (uErr bs p) w) := ruint_any v bs p w hv hbb (by omega)
  have hc := u_cases (p := p) hbb
  have HV := Lib.hid hv
  obtain ⟨a, cap, rfl⟩ := hv.shape
  clear hv hbb
  rcases hc with ⟨hE, hN, hX⟩ | ⟨hE, hN, hX⟩
  · rw [hE] at U
    by_cases hbad : m < 0 ∨ m < uNum bs p ∨ (bs.length : Int) - uNxt bs p < uNum bs p
    · have HB : Hid (∀ w', Below w.heap.size w w' → BytesIs bs p m w (.returned (.tuple #[.slice none 0 0, .int .i64 0, .int .i64 3])) w') := fun w' hb =>
        bytes_bad (by omega) (by unfold bErr; rw [if_pos hE, if_pos hbad]) hb
      generalize uNum bs p = N at *
      generalize uNxt bs p = X at *
      clear hE hN
      have hm0 := hbad
      by_cases h0 : m < 0
      · clear hbad hm0
        go_enter Tryz.func72, Tryz.ntmps72
        go_wp2_with (go_at_call 69; refine U.mono ?_)
        rintro e w1 ⟨rfl, hb⟩
        go_wp2
        go_ret3
        exact HB.out _ hb
      by_cases h1 : m < N
      · clear hbad hm0
        go_enter Tryz.func72, Tryz.ntmps72
        go_wp2_with (go_at_call 69; refine U.mono ?_)
        rintro e w1 ⟨rfl, hb⟩
        go_wp2
        go_ret3
        exact HB.out _ hb
      have h2 : (bs.length : Int) - X < N := by omega
      clear hbad hm0
      go_enter Tryz.func72, Tryz.ntmps72
      go_wp2_with (go_at_call 69; refine U.mono ?_)
      rintro e w1 ⟨rfl, hb⟩
      go_wp2
      go_ret3
      exact HB.out _ hb
    · have hz : bErr bs p m = 0 := by unfold bErr; rw [if_pos hE, if_neg hbad]
      unfold BytesIs bNxt bOut
      rw [hz, if_pos rfl, if_pos rfl]
      clear hz hE hN
      generalize uNum bs p = N at *
      generalize uNxt bs p = X at *
      have hM := Ints.mid (lo := X) (hi := X + N) HV.out (by omega) (by omega)
      have hol : ((bs.take (X + N)).drop X).length ≤ 50000000 := by rw [List.length_drop, List.length_take]; omega
      generalize (bs.take (X + N)).drop X = os at *
      have h0 : ¬ m < 0 := by omega
      have h1 : ¬ m < N := by omega
      have h2 : ¬ (bs.length : Int) - X < N := by omega
      have hcl : (bs.length : Int) ≤ cap := by
        rcases HV.out with ⟨a', cap', hv', hx, hm, hn⟩ | ⟨b, off, cap', hv', _, hc, hm, _⟩
        · subst hx; simp
        · injection hv' with e1 e2 e3; omega
      clear hbad
      by_cases hcq : cap = X
      · have C := Lib.hid (hM.1 hcq)
        subst hcq
        clear hM
        go_enter Tryz.func72, Tryz.ntmps72
        go_wp2_with (go_at_call 69; refine U.mono ?_)
        rintro e w1 ⟨rfl, hb⟩
        have o1 := owns_empty w1 5
        have ba : Below w1.heap.size w1 (w1.alloc (.cells #[] 5)) := (Below.refl _ _).alloc (Nat.le_refl _) _
        have iv := (C.out.below hb).below ba
        go_wp2_with (at_builtin; refine wpList_append_ints rfl (.tmp 39) (.tmp 46) 31 rfl w1.heap.size 5 i0 (.int .u8 0) 1 Tryz.underlying31 hi hz0 hz1 hz2 rfl _ 0 [] rfl o1 _ .u8 os rfl iv (by unfold maxLen; omega) (by omega) (by simp) ?_)
        intro v3 w3 hown3 hg3
        have hown4 : w3.ownsRow w.heap.size 5 1 v3 os.length (os.map (Value.int .u8)) := by simpa using owns_mono hown3 hb.size
        have hb3 : Below w.heap.size w w3 := (hb.alloc hb.size _).grown hg3 (by have := hb.size; simp; omega) (fun k hk => by simp [Value.ownBlock] at hk; have := hb.size; omega)
        clear hown3 hg3 iv o1 ba
        go_wp2
        go_ret3
        exact ⟨v3, rfl, hown4, hb3⟩
      · have C := Lib.hid (hM.2 hcq)
        clear hM
        go_enter Tryz.func72, Tryz.ntmps72
        go_wp2_with (go_at_call 69; refine U.mono ?_)
        rintro e w1 ⟨rfl, hb⟩
        have o1 := owns_empty w1 5
        have ba : Below w1.heap.size w1 (w1.alloc (.cells #[] 5)) := (Below.refl _ _).alloc (Nat.le_refl _) _
        have iv := (C.out.below hb).below ba
        go_wp2_with (at_builtin; refine wpList_append_ints rfl (.tmp 39) (.tmp 46) 31 rfl w1.heap.size 5 i0 (.int .u8 0) 1 Tryz.underlying31 hi hz0 hz1 hz2 rfl _ 0 [] rfl o1 _ .u8 os rfl iv (by unfold maxLen; omega) (by omega) (by simp) ?_)
        intro v3 w3 hown3 hg3
        have hown4 : w3.ownsRow w.heap.size 5 1 v3 os.length (os.map (Value.int .u8)) := by simpa using owns_mono hown3 hb.size
        have hb3 : Below w.heap.size w w3 := (hb.alloc hb.size _).grown hg3 (by have := hb.size; simp; omega) (fun k hk => by simp [Value.ownBlock] at hk; have := hb.size; omega)
        clear hown3 hg3 iv o1 ba
        go_wp2
        go_ret3
        exact ⟨v3, rfl, hown4, hb3⟩
  · have hE0 : (uErr bs p == 0) = false := by rw [beq_eq_false_iff_ne]; omega
    have hE1 : (uErr bs p != 0) = true := by rw [bne_iff_ne]; omega
    have HB : Hid (∀ w', Below w.heap.size w w' → BytesIs bs p m w (.returned (.tuple #[.slice none 0 0, .int .i64 0, .int .i64 (uErr bs p)])) w') := fun w' hb =>
      bytes_bad (by omega) (u_bad hE) hb
    rw [hN, hX] at U
    generalize uErr bs p = E at *
    clear hE hN hX
    go_enter Tryz.func72, Tryz.ntmps72
    go_wp2_with (go_at_call 69; refine U.mono ?_)
    rintro e w1 ⟨rfl, hb⟩
    go_wp2
    go_ret3
    exact HB.out _ hb
end Go.Proofs.YtohgopibimgjfaaGreat
