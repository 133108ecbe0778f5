
import Derived.Test.YtclbjfeneegicaaG
import Derived.Deep.AppendLies
/- A1: rows of whatever lies in m cells -/
namespace Go.Proofs.Ytclbjfeneegicaa
open Go.RowKit
set_option linter.unusedVariables false

/-- How an element lies: m cells, each whole. -/
structure Cel (α : Type) where
  c : α → List Value
  m : Nat
  len : ∀ x, (c x).length = m
  one : ∀ x, ∀ u ∈ c x, u.oneCell' = true
  pos : 0 < m

section
variable {α : Type} (C : Cel α)
def fl (xs : List α) : List Value := xs.flatMap C.c
theorem fl_nil : fl C [] = [] := rfl
theorem fl_cons (x : α) (r : List α) : fl C (x :: r) = C.c x ++ fl C r := rfl
theorem fl_app (a b : List α) : fl C (a ++ b) = fl C a ++ fl C b := by simp [fl]
theorem fl_one (x : α) : fl C [x] = C.c x := by simp [fl]
theorem fl_len : ∀ xs : List α, (fl C xs).length = xs.length * C.m
  | [] => by simp [fl]
  | x :: r => by rw [fl_cons, List.length_append, fl_len r, C.len, List.length_cons, Nat.add_mul]; omega
theorem fl_ones (xs : List α) : ∀ u ∈ fl C xs, u.oneCell' = true := by
  intro u hu
  obtain ⟨x, _, hx⟩ := List.mem_flatMap.1 hu
  exact C.one x u hx
theorem fl_get : ∀ (xs : List α) (j i : Nat) (hj : j < xs.length), i < C.m → (fl C xs)[j * C.m + i]? = (C.c xs[j])[i]?
  | x :: r, 0, i, _, hi => by
    rw [fl_cons, List.getElem?_append_left (by rw [C.len]; omega)]
    simp
  | x :: r, j + 1, i, hj, hi => by
    have e : (j + 1) * C.m + i = C.m + (j * C.m + i) := by rw [Nat.add_mul]; omega
    rw [fl_cons, List.getElem?_append_right (by rw [C.len]; omega)]
    have : (j + 1) * C.m + i - (C.c x).length = j * C.m + i := by rw [C.len]; omega
    rw [this, fl_get r j i (by simpa using hj) hi]
    simp
/-- A slice that reads as xs. -/
def Row (w : World) (v : Value) (xs : List α) : Prop :=
  (∃ a cap, v = .slice a 0 cap ∧ xs = [] ∧ cap ≤ maxLen ∧ (a = none → cap = 0)) ∨
  ∃ b off cap, v = .slice (some ⟨b, off, none⟩) xs.length cap ∧ 0 < xs.length ∧ xs.length ≤ cap ∧ cap ≤ maxLen ∧
    (∀ j u, (fl C xs)[j]? = some u → w.cell? ⟨b, off + j, none⟩ = some u)
variable {C}
theorem Row.below {B : Nat} {w w' : World} {v : Value} {xs : List α} (h : Row C w v xs) (hb : Below B w w') (hB : w.heap.size ≤ B) : Row C w' v xs := by
  rcases h with h | ⟨b, off, cap, rfl, h0, h1, h2, h3⟩
  · exact .inl h
  · refine .inr ⟨b, off, cap, rfl, h0, h1, h2, fun j u hu => ?_⟩
    have := h3 j u hu
    rw [← this]
    exact hb.cell (p := ⟨b, off + j, none⟩) (Nat.lt_of_lt_of_le (World.block_lt_of_cell? w _ this) hB)
theorem Row.shape {w : World} {v : Value} {xs : List α} (h : Row C w v xs) : ∃ a cap, v = .slice a xs.length cap := by
  rcases h with ⟨a, cap, rfl, rfl, hm, _⟩ | ⟨b, off, cap, rfl, h0, h1, hm, hc⟩
  · exact ⟨a, cap, rfl⟩
  · exact ⟨_, _, rfl⟩
theorem Row.len {w : World} {v : Value} {xs : List α} (h : Row C w v xs) : xs.length ≤ 9223372036854775807 := by
  rcases h with ⟨a, cap, rfl, rfl, _⟩ | ⟨b, off, cap, rfl, h0, h1, h2, h3⟩
  · simp
  · unfold maxLen at h2; omega
theorem Row.nil (w : World) : Row C w (.slice none 0 0) [] := .inl ⟨none, 0, rfl, rfl, by simp, fun _ => rfl⟩
theorem Row.opened {w : World} {a : Option Addr} {n cap : Nat} {xs : List α} (h : Row C w (.slice a n cap) xs) (h0 : 0 < xs.length) :
    ∃ b off, a = some ⟨b, off, none⟩ ∧ n = xs.length ∧ xs.length ≤ cap ∧ cap ≤ maxLen ∧ b < w.heap.size ∧
      (∀ j (hj : j < xs.length) i u, (C.c xs[j])[i]? = some u → w.cell? ⟨b, off + j * C.m + i, none⟩ = some u) ∧ (∀ j u, (fl C xs)[j]? = some u → w.cell? ⟨b, off + j, none⟩ = some u) := by
  rcases h with ⟨a, cap, hv, rfl, _⟩ | ⟨b, off, cap', hv, _, h1, hm, hc⟩
  · simp at h0
  · injection hv with e1 e2 e3
    subst e1 e2 e3
    have hat : ∀ j (hj : j < xs.length) i u, (C.c xs[j])[i]? = some u → w.cell? ⟨b, off + j * C.m + i, none⟩ = some u := fun j hj i u hu => by
      have hi : i < C.m := by have := (List.getElem?_eq_some_iff.1 hu).1; rwa [C.len] at this
      have := hc (j * C.m + i) u ((fl_get C xs j i hj hi).trans hu)
      rwa [← Nat.add_assoc] at this
    have hb : b < w.heap.size := by
      have hp : 0 < (C.c xs[0]).length := by rw [C.len]; exact C.pos
      exact World.block_lt_of_cell? w _ (hat 0 h0 0 _ (List.getElem?_eq_getElem hp))
    exact ⟨b, off, rfl, rfl, h1, hm, hb, hat, hc⟩
/-- A row that the call owns reads as what it owns. -/
theorem Row.of_owns {w : World} {base : Nat} {e : TypeId} {v : Value} {n : Nat} {xs : List α} (h : w.ownsRow base e C.m v n (fl C xs)) : Row C w v xs ∧ n = xs.length := by
  have hn : n = xs.length := by have := h.1; rw [fl_len] at this; exact (Nat.eq_of_mul_eq_mul_right C.pos this).symm
  subst hn
  refine ⟨?_, rfl⟩
  by_cases hx : xs = []
  · subst hx
    rcases h.2 with ⟨rfl, _⟩ | ⟨g, cap, cur, rfl, hb, hg, hc, hm, _⟩
    · exact .inl ⟨none, 0, rfl, rfl, by simp, fun _ => rfl⟩
    · exact .inl ⟨_, cap, rfl, rfl, hm, by simp⟩
  · have hpos : 0 < xs.length := List.length_pos_iff.2 hx
    rcases h.2 with ⟨rfl, h0⟩ | ⟨g, cap, cur, hv, hb, hg, hc, hm, _⟩
    · omega
    · subst hv
      refine .inr ⟨g, 0, cap, rfl, hpos, hc, hm, fun j u hu => ?_⟩
      have := h.cells (g := g) rfl j u hu
      rw [Go.WideShapes.add_plain] at this
      simpa using this
/-- The block of a row that the call owns lies from its base on. -/
theorem own_base {w : World} {base : Nat} {e : TypeId} {size : Nat} {v : Value} {n : Nat} {xs : List Value} (h : w.ownsRow base e size v n xs) {k : Nat} (hk : v.ownBlock = some k) : base ≤ k := by
  rcases h.2 with ⟨rfl, _⟩ | ⟨g, cap, cur, rfl, hb, _⟩
  · simp [Value.ownBlock] at hk
  · simp [Value.ownBlock] at hk; omega
theorem Row.built (w : World) (t : TypeId) (xs : List α) (hm : xs.length ≤ maxLen) : Row C (w.alloc (.cells (fl C xs).toArray t)) (.slice (some ⟨w.heap.size, 0, none⟩) xs.length xs.length) xs := by
  by_cases h0 : xs = []
  · subst h0; exact .inl ⟨_, 0, rfl, rfl, by simp, by simp⟩
  · refine .inr ⟨_, 0, _, rfl, List.length_pos_iff.2 h0, Nat.le_refl _, hm, fun j u hu => ?_⟩
    rw [cell_of_row (w.alloc (.cells (fl C xs).toArray t)) w.heap.size (0 + j) _ t (0, 0) (heap_alloc_new w _), ← hu]
    simp
theorem row_mid_len (xs : List α) {lo hi : Nat} (h1 : lo ≤ hi) (h2 : hi ≤ xs.length) : ((xs.take hi).drop lo).length = hi - lo := by rw [List.length_drop, List.length_take]; omega
/-- A part of a slice, as Go cuts it. -/
theorem Row.mid {w : World} {a : Option Addr} {n cap lo hi : Nat} {xs : List α} (h : Row C w (.slice a n cap) xs) (h1 : lo ≤ hi) (h2 : hi ≤ xs.length) :
    Row C w (sliced a lo hi cap C.m) ((xs.take hi).drop lo) := by
  have hl := row_mid_len xs h1 h2
  have hcm : cap ≤ maxLen ∧ (a = none → cap = 0) ∧ xs.length ≤ cap := by
    rcases h with ⟨a', cap', hv', hx, hm, hn⟩ | ⟨b, off, cap', hv', _, hc, hm, _⟩
    · injection hv' with e1 e2 e3; subst e1 e3; subst hx; exact ⟨hm, hn, by simp⟩
    · injection hv' with e1 e2 e3; subst e1 e3; exact ⟨hm, by simp, hc⟩
  unfold sliced
  by_cases h0 : lo = hi
  · subst h0
    refine .inl ⟨_, cap - lo, by rw [Nat.sub_self], by apply List.drop_eq_nil_of_le; rw [List.length_take]; omega, by omega, fun hn => ?_⟩
    split at hn
    · have := hcm.2.1 hn; omega
    · have := hcm.2.1 (by simpa using hn); omega
  · obtain ⟨b, off, ha, hn, hx, hm, hbl, -, hcc⟩ := h.opened (by omega)
    subst ha
    rw [if_neg (by omega)]
    refine .inr ⟨b, off + lo * C.m, cap - lo, ?_, by omega, by omega, by omega, fun j u hu => ?_⟩
    · rw [hl, Option.map_some, Go.WideShapes.add_plain]
    · have hj : j < (hi - lo) * C.m := by
        have := (List.getElem?_eq_some_iff.1 hu).1
        rwa [fl_len, hl] at this
      have e : fl C xs = fl C (xs.take lo) ++ (fl C ((xs.take hi).drop lo) ++ fl C (xs.drop hi)) := by
        rw [← fl_app, ← fl_app]
        congr 1
        have e2 : xs.take lo = (xs.take hi).take lo := by rw [List.take_take, Nat.min_eq_left h1]
        rw [e2, ← List.append_assoc, List.take_append_drop, List.take_append_drop]
      have hlo : (fl C (xs.take lo)).length = lo * C.m := by rw [fl_len, List.length_take, Nat.min_eq_left (by omega)]
      have : (fl C xs)[lo * C.m + j]? = some u := by
        rw [e, List.getElem?_append_right (by omega), hlo, Nat.add_sub_cancel_left, List.getElem?_append_left (by rw [fl_len, hl]; exact hj)]
        exact hu
      rw [Nat.add_assoc]
      exact hcc _ _ this
theorem Row.headed {w : World} {a : Option Addr} {n cap hi : Nat} {xs : List α} (h : Row C w (.slice a n cap) xs) (h2 : hi ≤ xs.length) : Row C w (sliced a 0 hi cap C.m) (xs.take hi) := by
  have := h.mid (Nat.zero_le hi) h2
  simpa using this
theorem Row.tailed {w : World} {a : Option Addr} {n cap lo : Nat} {xs : List α} (h : Row C w (.slice a n cap) xs) (h1 : lo ≤ xs.length) : Row C w (sliced a lo xs.length cap C.m) (xs.drop lo) := by
  have := h.mid h1 (Nat.le_refl _)
  rwa [List.take_of_length_le (Nat.le_refl _)] at this

theorem Row.head {w : World} {a : Option Addr} {n cap hi : Nat} {xs : List α} (h : Row C w (.slice a n cap) xs) (h2 : hi ≤ xs.length) : Row C w (.slice a hi cap) (xs.take hi) := by
  have := h.headed h2
  unfold sliced at this
  have e : (if cap = 0 then a else a.map (·.add (0 * C.m))) = a := by
    split
    · rfl
    · rw [Nat.zero_mul]
      cases a with
      | none => rfl
      | some x => obtain ⟨b, o, s⟩ := x; simp [Addr.add]
  rw [e] at this
  simpa using this
theorem Row.tail {w : World} {a : Option Addr} {n cap lo : Nat} {xs : List α} (h : Row C w (.slice a n cap) xs) (h1 : lo ≤ xs.length) :
    (cap = lo → Row C w (.slice a (xs.length - lo) 0) (xs.drop lo)) ∧ (¬ cap = lo → Row C w (.slice (a.map fun x => x.add (lo * C.m)) (xs.length - lo) (cap - lo)) (xs.drop lo)) := by
  have := h.tailed h1
  unfold sliced at this
  refine ⟨fun hc => ?_, fun hc => ?_⟩
  · rw [if_pos hc, hc, Nat.sub_self] at this; exact this
  · rw [if_neg hc] at this; exact this

/-- append(out, src...): out the call's own, src whatever slice, nil too. -/
theorem wpList_append_row {P : Program} {w : World} {ops : Array Oper} {rest : List Oper} {o : Oper} {a : Act} {Q : Exit → Act → World → Prop} (hgd : o.guard = none) (s x : Operand) (t : TypeId)
    (ho : o.op = .call { callee := .builtin .append, args := #[s, x], argTypes := #[t, t] })
    (base : Nat) (e : TypeId) (i : TypeInfo) (z : Value) (bytes : Nat) (ht : P.underlying t = some (.slice e)) (hi : P.info? e = some i) (hz : i.zero = some z)
    (hsize : i.size = C.m) (hby : i.bytes = bytes) (hzs : z.cells.size = C.m)
    (v : Value) (n : Nat) (cs : List Value) (hs : a.eval s = v) (hown : w.ownsRow base e C.m v n cs)
    (u : Value) (ys : List α) (hx : a.eval x = u) (hu : Row C w u ys)
    (h63 : n + ys.length ≤ maxLen) (hbytes : (n + ys.length) * bytes ≤ 140737488355328) (hbase : base ≤ w.heap.size)
    (h : ∀ v' w', w'.ownsRow base e C.m v' (n + ys.length) (cs ++ fl C ys) → w.grownBy w' v.ownBlock → wpList P ops Q rest (a.put o.dst v') w') : wpList P ops Q (o :: rest) a w := by
  rcases hu with ⟨ad, cap, rfl, rfl, hm, hc0⟩ | ⟨b, off, cap, rfl, h0, h1, hm, hc⟩
  · cases ad with
    | none =>
      obtain rfl := hc0 rfl
      exact wpList_append_own_none hgd s x t ho base e i C.m ht hi v n cs hs hown hx (h v w (by simpa [fl_nil] using hown) (grown_refl _ _))
    | some ad =>
      exact wpList_append_own w hgd s x t ho base e i z C.m bytes ht hi hz hsize hby hzs C.pos v n cs hs hown ad 0 cap [] hx (by simp) (by intro j u hj; simp at hj) (by intro u hu; cases hu) h63 hbytes hbase (fun v' w' q1 q2 _ => h v' w' (by simpa [fl_nil] using q1) q2)
  · refine wpList_append_own w hgd s x t ho base e i z C.m bytes ht hi hz hsize hby hzs C.pos v n cs hs hown ⟨b, off, none⟩ ys.length cap (fl C ys) hx (fl_len C ys) ?_ (fl_ones C ys) h63 hbytes hbase (fun v' w' q1 q2 _ => h v' w' q1 q2)
    intro j u hj
    rw [Go.WideShapes.add_plain]
    exact hc j u hj
end
section
variable {P : Program} {ops : Array Oper} {C : World → Prop} {Q : Act → Prop} {a : Act} {o : Oper} {rest : List Oper}
/-- The class walk, closed in a structure: else each tactic that looks at its goal's head runs the region. -/
structure WQ (P : Program) (ops : Array Oper) (C : World → Prop) (Q : Act → Prop) (l : List Oper) (a : Act) : Prop where
  out : wpQuiet P ops C Q l a
theorem region_classw {id : Nat} {Q' : Exit → Act → World → Prop} {w : World} {l : List Oper} (hm : P.follows .mixedOrders = true) (hB : Region.lexB .any l.toArray = true) (hC : C w.drew)
    (h : WQ P l.toArray C (fun a' => ∀ w', C w' → Q' .normal a' w') l a) : (Code.region id l.toArray true).wp P Q' a w := region_class hm hB hC h.out
theorem w_skip {j : Nat} {want : Bool} (hg : o.guard = some (j, want)) (hy : yielded ops a.tmps j = some (!want)) (k : WQ P ops C Q rest (a.put o.dst undef)) : WQ P ops C Q (o :: rest) a :=
  ⟨q_skip (by unfold Region.wanted; rw [hg]; simp only [hy]; cases want <;> rfl) k.out⟩
theorem w_skipn {j : Nat} {want : Bool} (hg : o.guard = some (j, want)) (hy : yielded ops a.tmps j = none) (k : WQ P ops C Q rest (a.put o.dst undef)) : WQ P ops C Q (o :: rest) a :=
  ⟨q_skip (by unfold Region.wanted; rw [hg]; simp only [hy]; rfl) k.out⟩
theorem w_valg {j : Nat} {want : Bool} {v : Value} (hg : o.guard = some (j, want)) (hy : yielded ops a.tmps j = some want) (hv : ∀ w, C w → (execOp a.eval o).run P w = .ok (.value v) w) (k : WQ P ops C Q rest (a.put o.dst v)) : WQ P ops C Q (o :: rest) a :=
  ⟨q_val (by unfold Region.wanted; rw [hg]; simp only [hy]; cases want <;> rfl) hv k.out⟩
theorem w_val {v : Value} (hg : o.guard = none) (hv : ∀ w, C w → (execOp a.eval o).run P w = .ok (.value v) w) (k : WQ P ops C Q rest (a.put o.dst v)) : WQ P ops C Q (o :: rest) a :=
  ⟨q_val (by unfold Region.wanted; rw [hg]) hv k.out⟩
theorem w_callg {j : Nat} {want : Bool} {v : Value} {f : FuncId} {args : Array Value} (hg : o.guard = some (j, want)) (hy : yielded ops a.tmps j = some want) (hv : ∀ w, C w → (execOp a.eval o).run P w = .ok (.enter f args) w)
    (hc : ∀ w, C w → Calls P f args w fun e w' => e = .returned v ∧ C w') (k : WQ P ops C Q rest (a.put o.dst v)) : WQ P ops C Q (o :: rest) a :=
  ⟨q_call (by unfold Region.wanted; rw [hg]; simp only [hy]; cases want <;> rfl) hv hc k.out⟩
theorem w_call {v : Value} {f : FuncId} {args : Array Value} (hg : o.guard = none) (hv : ∀ w, C w → (execOp a.eval o).run P w = .ok (.enter f args) w)
    (hc : ∀ w, C w → Calls P f args w fun e w' => e = .returned v ∧ C w') (k : WQ P ops C Q rest (a.put o.dst v)) : WQ P ops C Q (o :: rest) a :=
  ⟨q_call (by unfold Region.wanted; rw [hg]) hv hc k.out⟩
theorem w_end (h : Q a) : WQ P ops C Q [] a := ⟨q_end h⟩
end

end Go.Proofs.Ytclbjfeneegicaa
