
import Derived.Test.YtoppgdhidnpibaaNA
import Derived.Deep.MidRow
import Derived.Great.BuildSlice
import Derived.Great.Ranges
import Derived.Great.Walk
/- TA: an arena of things that lie in m cells each, in memory -/
namespace Go.Proofs.Ytoppgdhidnpibaa
open Go.RowKit
set_option linter.unusedVariables false

/-- How things of m cells lie: the types of an arena, its state, a place, a thing; a thing's cells, the zero one's. -/
structure KT (α : Type) where
  tA : TypeId
  tS : TypeId
  tP : TypeId
  m : Nat
  c : α → List Value
  zc : List Value
  len : ∀ x, (c x).length = m
  lenZ : zc.length = m
  one : ∀ x, ∀ u ∈ c x, u.oneCell' = true
  oneZ : ∀ u ∈ zc, u.oneCell' = true
  nAS : tA ≠ tS
  nAP : tA ≠ tP
  nSP : tS ≠ tP
  nAI : tA ≠ 3
  nSI : tS ≠ 3
  nPI : tP ≠ 3
def KT.v {α : Type} (K : KT α) (x : α) : Value := .agg (K.c x).toArray
def KT.z {α : Type} (K : KT α) : Value := .agg K.zc.toArray
def plT {α : Type} (K : KT α) : Option α → List Value
  | none => .bool false :: K.zc
  | some x => .bool true :: K.c x
theorem plT_len {α : Type} (K : KT α) (x : Option α) : (plT K x).length = K.m + 1 := by cases x <;> simp [plT, K.len, K.lenZ]
theorem plT_one {α : Type} (K : KT α) (x : Option α) : ∀ u ∈ plT K x, u.oneCell' = true := by
  intro u hu
  cases x with
  | none =>
    rcases List.mem_cons.1 hu with rfl | hu
    · rfl
    · exact K.oneZ u hu
  | some x =>
    rcases List.mem_cons.1 hu with rfl | hu
    · rfl
    · exact K.one x u hu
def plTC {α : Type} (K : KT α) : Cel (Option α) := ⟨plT K, K.m + 1, plT_len K, plT_one K, Nat.succ_pos _⟩

/-! ### cells in the midst of a row, set -/
def sets (L : List Value) : Nat → List Value → List Value
  | _, [] => L
  | o, v :: r => sets (L.set o v) (o + 1) r
theorem sets_len : ∀ (vs : List Value) (L : List Value) (o : Nat), (sets L o vs).length = L.length
  | [], L, o => rfl
  | v :: r, L, o => by rw [sets, sets_len r]; simp
theorem sets_mid : ∀ (vs B A C : List Value), vs.length = B.length → sets (A ++ (B ++ C)) A.length vs = A ++ (vs ++ C)
  | [], [], A, C, _ => rfl
  | [], _ :: _, A, C, h => by simp at h
  | _ :: _, [], A, C, h => by simp at h
  | v :: r, b :: B, A, C, h => by
    have e : (A ++ (b :: B ++ C)).set A.length v = (A ++ [v]) ++ (B ++ C) := by
      rw [List.set_append_right _ _ (Nat.le_refl _), Nat.sub_self]; simp
    have e2 : A.length + 1 = (A ++ [v]).length := by simp
    rw [sets, e, e2, sets_mid r B (A ++ [v]) C (by simpa using h)]
    simp
theorem grown_sets (g : Nat) : ∀ (vs : List Value) (o : Nat) (w : World), w.grownBy (w.setCells g o vs) (some g)
  | [], o, w => grown_refl w _
  | v :: r, o, w => by
    have h1 := grown_set (w := w) (g := g) (o := o) v
    have h2 := grown_sets g r (o + 1) (w.setCell ⟨g, o, none⟩ v)
    exact ⟨h2.os.trans h1.os, h2.tape.trans h1.tape, h2.output.trans h1.output, Nat.le_trans h1.size h2.size, fun k hk hn => (h2.block k (Nat.lt_of_lt_of_le hk h1.size) hn).trans (h1.block k hk hn)⟩
theorem owns_sets {base : Nat} {e : TypeId} {size : Nat} {g cap n : Nat} : ∀ (vs : List Value) (o : Nat) (xs : List Value) (w : World), w.ownsRow base e size (.slice (some ⟨g, 0, none⟩) n cap) n xs →
    (w.setCells g o vs).ownsRow base e size (.slice (some ⟨g, 0, none⟩) n cap) n (sets xs o vs)
  | [], o, xs, w, h => h
  | v :: r, o, xs, w, h => owns_sets r (o + 1) _ _ (owns_set h v)

section
variable {α : Type} {K : KT α}
theorem fl_setT (y : Option α) (ps : List (Option α)) (i : Nat) (hi : i < ps.length) : sets (fl (plTC K) ps) (i * (K.m + 1)) (plT K y) = fl (plTC K) (ps.set i y) := by
  have e : ps = ps.take i ++ ([ps[i]] ++ ps.drop (i + 1)) := by
    rw [List.singleton_append, ← List.drop_eq_getElem_cons hi, List.take_append_drop]
  have e2 : ps.set i y = ps.take i ++ ([y] ++ ps.drop (i + 1)) := by
    rw [List.set_eq_take_append_cons_drop, if_pos hi]; rfl
  have e3 : fl (plTC K) ps = fl (plTC K) (ps.take i) ++ (plT K ps[i] ++ fl (plTC K) (ps.drop (i + 1))) := by
    rw [show plT K ps[i] = fl (plTC K) [ps[i]] from (fl_one (plTC K) ps[i]).symm, ← fl_app, ← fl_app, ← e]
  have hl : (fl (plTC K) (ps.take i)).length = i * (K.m + 1) := by
    rw [fl_len, List.length_take, Nat.min_eq_left (by omega)]; rfl
  rw [e3, ← hl, sets_mid _ _ _ _ (by rw [plT_len, plT_len]), e2, fl_app, fl_app, fl_one]
  rfl

/-- An arena's memory: its block, its state's, the rows of places and of free ones; in blocks of S. -/
structure AtM (K : KT α) (S : Nat → Prop) (ab st : Nat) (sv fv : Value) (ps : List (Option α)) (fr : List Nat) (w : World) : Prop where
  hab : w.heap[ab]? = some (.cells #[.pointer (some ⟨st, 0, none⟩)] K.tA (0, 0))
  hst : w.heap[st]? = some (.cells #[sv, fv] K.tS (0, 0))
  hsv : w.ownsRow 0 K.tP (K.m + 1) sv ps.length (fl (plTC K) ps)
  hfv : w.ownsRow 0 3 1 fv fr.length (fr.map fun i => Value.int .i64 (i : Nat))
  sA : S ab
  sSt : S st
  sSv : ∀ g, sv.ownBlock = some g → S g
  sFv : ∀ g, fv.ownBlock = some g → S g
variable {S : Nat → Prop} {ab st : Nat} {sv fv : Value} {ps : List (Option α)} {fr : List Nat} {w w' w1 : World}
theorem AtM.kept (h : AtM K S ab st sv fv ps fr w) (hk : ∀ k, k < w.heap.size → S k → w'.heap[k]? = w.heap[k]?) : AtM K S ab st sv fv ps fr w' :=
  ⟨(hk ab (lt_of_heap h.hab) h.sA).trans h.hab, (hk st (lt_of_heap h.hst) h.sSt).trans h.hst, owns_kept h.hsv (fun g hg => hk g (own_lt7 h.hsv hg) (h.sSv g hg)), owns_kept h.hfv (fun g hg => hk g (own_lt7 h.hfv hg) (h.sFv g hg)),
    h.sA, h.sSt, h.sSv, h.sFv⟩
theorem AtM.below (h : AtM K S ab st sv fv ps fr w) (hb : Below w.heap.size w w') : AtM K S ab st sv fv ps fr w' := h.kept (fun k hk _ => hb.block k hk)
theorem AtM.mono (h : AtM K S ab st sv fv ps fr w) {S' : Nat → Prop} (hS : ∀ k, S k → S' k) : AtM K S' ab st sv fv ps fr w :=
  ⟨h.hab, h.hst, h.hsv, h.hfv, hS _ h.sA, hS _ h.sSt, fun g hg => hS _ (h.sSv g hg), fun g hg => hS _ (h.sFv g hg)⟩
theorem AtM.cutS (h : AtM K S ab st sv fv ps fr w) : AtM K (fun k => S k ∧ k < w.heap.size) ab st sv fv ps fr w :=
  ⟨h.hab, h.hst, h.hsv, h.hfv, ⟨h.sA, lt_of_heap h.hab⟩, ⟨h.sSt, lt_of_heap h.hst⟩, fun g hg => ⟨h.sSv g hg, own_lt7 h.hsv hg⟩, fun g hg => ⟨h.sFv g hg, own_lt7 h.hfv hg⟩⟩
theorem AtM.cells (h : AtM K S ab st sv fv ps fr w) : w.cell? ⟨ab, 0, none⟩ = some (.pointer (some ⟨st, 0, none⟩)) ∧ w.cell? ⟨st, 0, none⟩ = some sv ∧ w.cell? ⟨st, 1, none⟩ = some fv := by
  refine ⟨?_, ?_, ?_⟩
  · rw [cell_of_row w ab 0 _ _ _ h.hab]; rfl
  · rw [cell_of_row w st 0 _ _ _ h.hst]; rfl
  · rw [cell_of_row w st 1 _ _ _ h.hst]; rfl
theorem AtM.nofreeze (h : AtM K S ab st sv fv ps fr w) (o : Nat) : w.frozen? ⟨st, o, none⟩ = false := by simp [World.frozen?, h.hst]
theorem AtM.form (h : AtM K S ab st sv fv ps fr w) (h0 : 0 < ps.length) : ∃ g cap, sv = .slice (some ⟨g, 0, none⟩) ps.length cap ∧ g < w.heap.size ∧ ps.length ≤ cap := by
  obtain ⟨g, cap, rfl, -, hg⟩ := h.hsv.form h0
  refine ⟨g, cap, rfl, hg, ?_⟩
  rcases h.hsv.2 with ⟨hn, _⟩ | ⟨g', cap', cur, hv, _, _, hc, _⟩
  · cases hn
  · injection hv with _ _ e; subst e; exact hc
/-- The cells of a place: there, and none of them marked. -/
theorem AtM.place {g cap : Nat} (h : AtM K S ab st (.slice (some ⟨g, 0, none⟩) ps.length cap) fv ps fr w) {i : Nat} {p : Option α} (hi : ps[i]? = some p) :
    w.rangeAt g (i * (K.m + 1)) (plT K p) ∧ (∀ o, w.frozen? ⟨g, o, none⟩ = false) := by
  obtain ⟨hlt, hx2⟩ := List.getElem?_eq_some_iff.1 hi
  have hR := (Row.of_owns (C := plTC K) h.hsv).1
  obtain ⟨b', off, ha, -, -, -, -, hat, -⟩ := Row.opened hR (by omega)
  obtain ⟨rfl, rfl⟩ : b' = g ∧ off = 0 := by injection ha with e; injection e with e1 e2; exact ⟨e1.symm, e2.symm⟩
  refine ⟨fun j u hu => ?_, fun o => ?_⟩
  · have := hat i hlt j u (by rw [hx2]; exact hu)
    rw [Nat.zero_add] at this
    exact this
  · obtain ⟨cur, hc⟩ := own_tag h.hsv (g := b') rfl
    simp [World.frozen?, hc]
theorem AtM.thing {g cap : Nat} (h : AtM K S ab st (.slice (some ⟨g, 0, none⟩) ps.length cap) fv ps fr w) {i : Nat} {x : α} (hi : ps[i]? = some (some x)) :
    w.rangeAt g (i * (K.m + 1) + 1) (K.c x) := fun j u hu => by
  have := (h.place hi).1 (j + 1) u (by simpa [plT] using hu)
  rwa [show i * (K.m + 1) + (j + 1) = i * (K.m + 1) + 1 + j by omega] at this
theorem AtM.there {g cap : Nat} (h : AtM K S ab st (.slice (some ⟨g, 0, none⟩) ps.length cap) fv ps fr w) {i : Nat} {p : Option α} (hi : ps[i]? = some p) : w.there g (i * (K.m + 1)) (K.m + 1) := fun j hj =>
  ⟨(h.place hi).1.isSome j (by rw [plT_len]; exact hj), (h.place hi).2 _⟩
/-- The row of places turns within. -/
theorem AtM.turn {g cap : Nat} {ps' : List (Option α)} (h : AtM K S ab st (.slice (some ⟨g, 0, none⟩) ps.length cap) fv ps fr w) (hG : w.grownBy w' (some g)) (ho : w'.ownsRow 0 K.tP (K.m + 1) (.slice (some ⟨g, 0, none⟩) ps.length cap) ps.length (fl (plTC K) ps')) (hl : ps'.length = ps.length) :
    AtM K S ab st (.slice (some ⟨g, 0, none⟩) ps.length cap) fv ps' fr w' := by
  obtain ⟨cur, hcur⟩ := own_tag h.hsv (g := g) rfl
  exact ⟨far hG h.hab (fun g' hg' => by cases hg'; exact ⟨_, hcur, fun e => by injection e with _ e _; exact K.nAP e.symm⟩), far hG h.hst (fun g' hg' => by cases hg'; exact ⟨_, hcur, fun e => by injection e with _ e _; exact K.nSP e.symm⟩), by rw [hl]; exact ho,
    own_far hG h.hfv (fun g' hg' => by cases hg'; exact ⟨_, hcur, fun c e => by injection e with _ e _; exact K.nPI e⟩), h.sA, h.sSt, h.sSv, h.sFv⟩
/-- All cells of a place. -/
theorem AtM.putA {g cap : Nat} (h : AtM K S ab st (.slice (some ⟨g, 0, none⟩) ps.length cap) fv ps fr w) {i : Nat} (hi : i < ps.length) (y : Option α) :
    AtM K S ab st (.slice (some ⟨g, 0, none⟩) ps.length cap) fv (ps.set i y) fr (w.setCells g (i * (K.m + 1)) (plT K y)) := by
  refine h.turn (grown_sets g _ _ _) ?_ (by simp)
  rw [← fl_setT y ps i hi]
  exact owns_sets _ _ _ _ h.hsv
/-- The row of free ones turns, and the state with it. -/
theorem AtM.refree (h : AtM K S ab st sv fv ps fr w) {fv' : Value} {fr' : List Nat} (hG : w.grownBy w1 fv.ownBlock) (ho : w1.ownsRow 0 3 1 fv' fr'.length (fr'.map fun i => Value.int .i64 (i : Nat))) (hS : ∀ g, fv'.ownBlock = some g → S g) :
    AtM K S ab st sv fv' ps fr' (w1.setCell ⟨st, 1, none⟩ fv') := by
  have ht1 : ∀ g', fv.ownBlock = some g' → ∃ cur, w.heap[g']? = some (.cells cur 3 (0, 0)) := fun g' hg' => own_tag h.hfv hg'
  have hst1 := far hG h.hst (fun g' hg' => by obtain ⟨cur, hcur⟩ := ht1 g' hg'; exact ⟨_, hcur, fun e => by injection e with _ e _; exact K.nSI e.symm⟩)
  have hab1 := far hG h.hab (fun g' hg' => by obtain ⟨cur, hcur⟩ := ht1 g' hg'; exact ⟨_, hcur, fun e => by injection e with _ e _; exact K.nAI e.symm⟩)
  have hG2 := grown_set (w := w1) (g := st) (o := 1) fv'
  have hs1 : ∀ e : TypeId, e ≠ K.tS → ∀ g', some st = some g' → ∃ o', w1.heap[g']? = some o' ∧ ∀ c, o' ≠ .cells c e (0, 0) := fun e he g' hg' => by
    cases hg'
    exact ⟨_, hst1, fun c hc => by injection hc with _ hc _; exact he hc.symm⟩
  refine ⟨far hG2 hab1 (fun g' hg' => by cases hg'; exact ⟨_, hst1, fun e => by injection e with _ e _; exact K.nAS e.symm⟩), ?_, own_far hG2 (own_far hG h.hsv (fun g' hg' => by obtain ⟨cur, hcur⟩ := ht1 g' hg'; exact ⟨_, hcur, fun c e => by injection e with _ e _; first | exact K.nPI e | exact K.nPI e.symm⟩)) (hs1 _ K.nSP.symm), own_far hG2 ho (hs1 _ K.nSI.symm),
    h.sA, h.sSt, h.sSv, hS⟩
  rw [heap_set fv' hst1]; rfl
/-- The row of places grows, and the state with it. -/
theorem AtM.resets (h : AtM K S ab st sv fv ps fr w) {sv' : Value} {ps' : List (Option α)} (hG : w.grownBy w1 sv.ownBlock) (ho : w1.ownsRow 0 K.tP (K.m + 1) sv' ps'.length (fl (plTC K) ps')) (hS : ∀ g, sv'.ownBlock = some g → S g) :
    AtM K S ab st sv' fv ps' fr (w1.setCell ⟨st, 0, none⟩ sv') := by
  have ht1 : ∀ g', sv.ownBlock = some g' → ∃ cur, w.heap[g']? = some (.cells cur K.tP (0, 0)) := fun g' hg' => own_tag h.hsv hg'
  have hst1 := far hG h.hst (fun g' hg' => by obtain ⟨cur, hcur⟩ := ht1 g' hg'; exact ⟨_, hcur, fun e => by injection e with _ e _; exact K.nSP e.symm⟩)
  have hab1 := far hG h.hab (fun g' hg' => by obtain ⟨cur, hcur⟩ := ht1 g' hg'; exact ⟨_, hcur, fun e => by injection e with _ e _; exact K.nAP e.symm⟩)
  have hG2 := grown_set (w := w1) (g := st) (o := 0) sv'
  have hs1 : ∀ e : TypeId, e ≠ K.tS → ∀ g', some st = some g' → ∃ o', w1.heap[g']? = some o' ∧ ∀ c, o' ≠ .cells c e (0, 0) := fun e he g' hg' => by
    cases hg'
    exact ⟨_, hst1, fun c hc => by injection hc with _ hc _; exact he hc.symm⟩
  refine ⟨far hG2 hab1 (fun g' hg' => by cases hg'; exact ⟨_, hst1, fun e => by injection e with _ e _; exact K.nAS e.symm⟩), ?_, own_far hG2 ho (hs1 _ K.nSP.symm), own_far hG2 (own_far hG h.hfv (fun g' hg' => by obtain ⟨cur, hcur⟩ := ht1 g' hg'; exact ⟨_, hcur, fun c e => by injection e with _ e _; first | exact K.nPI e | exact K.nPI e.symm⟩)) (hs1 _ K.nSI.symm),
    h.sA, h.sSt, hS, h.sFv⟩
  rw [heap_set sv' hst1]; rfl
end

/-! ### operations on a whole row of cells, whatever guards them -/
/-- A part of a row, loaded whole. -/
theorem wpList_load_midw {P : Program} {ops : Array Oper} {rest : List Oper} {op : Oper} {a : Act} {w : World} {Q : Exit → Act → World → Prop} (hw : Region.wanted op (yielded ops a.tmps) = true) (ty : TypeId) (x : Operand) (ho : op.op = .load ty x)
    (b o : Nat) (hx : a.eval x = .pointer (some ⟨b, o, none⟩)) (cs : List Value) (d : TypeDesc) (hc : w.rangeAt b o cs)
    (hu : P.underlying ty = some d) (hd : d.isRow = true) (hi : (P.info? ty).map (·.size) = some cs.length)
    (h : wpList P ops Q rest (a.put op.dst (.agg cs.toArray)) w) : wpList P ops Q (op :: rest) a w :=
  wpList_step fun K hK => by
    rw [if_pos hw]
    exact wp_load_mid ty x ho b o hx cs d hc hu hd hi (hK _ _ h)
/-- A variable of zero cells is made. -/
theorem wpList_alloc_row {P : Program} {ops : Array Oper} {rest : List Oper} {op : Oper} {a : Act} {w : World} {Q : Exit → Act → World → Prop} (hg : op.guard = none) (ty : TypeId) (ho : op.op = .alloc ty) (zc : List Value)
    (hi : (P.info? ty).bind (·.zero) = some (.agg zc.toArray)) (N : Nat) (hN : w.heap.size = N)
    (h : wpList P ops Q rest (a.put op.dst (.pointer (some ⟨N, 0, none⟩))) (w.alloc (.cells zc.toArray ty))) : wpList P ops Q (op :: rest) a w := by
  subst hN
  refine Great.wpList_allocTo hg op.dst rfl (.pointer (some ⟨w.heap.size, 0, none⟩)) (.cells zc.toArray ty) ?_ h
  cases hq : P.info? ty with
  | none => simp [hq] at hi
  | some i =>
    simp [hq] at hi
    simp [execOp, ho, Instr.alloc, zeroValue, typeInfo, hq, hi, newVar, newRow, Value.cells]
/-! a place is built of a flag and a thing's cells -/
theorem fold_sets (off : Nat) : ∀ (L : List Value) (k : Nat) (A : Array Value), ((L.zipIdx k).foldl (fun cs x => cs.setIfInBounds (off + x.2) x.1) A).toList = sets A.toList (off + k) L
  | [], k, A => rfl
  | v :: r, k, A => by
    rw [List.zipIdx_cons, List.foldl_cons, fold_sets off r (k + 1), sets]
    simp [Nat.add_assoc]
theorem fold_setsA (off : Nat) (c A : Array Value) : (c.zipIdx.foldl (fun cs (x : Value × Nat) => cs.setIfInBounds (off + x.2) x.1) A).toList = sets A.toList off c.toList := by
  rw [← Array.foldl_toList, Array.toList_zipIdx, fold_sets off c.toList 0 A, Nat.add_zero]
theorem built_two {P : Program} (t : TypeId) (it : TypeInfo) (hi : P.info? t = some it) (fields : Array Field) (hu : P.underlying t = some (.struct fields)) (b0 : Value) (zc : List Value) (hz : it.zero = some (.agg (b0 :: zc).toArray))
    (m : Nat) (hp : fields.toList.mapM (fun f => (P.info? f.type).map fun i => (f.offset, i.size)) = some [(0, 1), (1, m)]) (hm : zc.length = m) (b : Bool) (cx : List Value) (hc : cx.length = m) :
    P.built t [(0, .bool b), (1, .agg cx.toArray)] = some (.bool b :: cx).toArray := by
  unfold Program.built
  simp only [hi, hu, hz, hp]
  have e1 : (Value.agg (b0 :: zc).toArray).cells = (b0 :: zc).toArray := rfl
  have e2 : (Value.bool b).cells = #[.bool b] := rfl
  have e3 : (Value.agg cx.toArray).cells = cx.toArray := rfl
  have h0 : ([(0, 1), (1, m)] : List (Nat × Nat)).toArray[0]? = some (0, 1) := rfl
  have h1 : ([(0, 1), (1, m)] : List (Nat × Nat)).toArray[1]? = some (1, m) := rfl
  have f0 : (#[Value.bool b].zipIdx.foldl (fun cs (x : Value × Nat) => cs.setIfInBounds (0 + x.2) x.1) (b0 :: zc).toArray) = (.bool b :: zc).toArray := by
    apply Array.toList_inj.1
    rw [fold_setsA]
    rfl
  have f1 : (cx.toArray.zipIdx.foldl (fun cs (x : Value × Nat) => cs.setIfInBounds (1 + x.2) x.1) (.bool b :: zc).toArray) = (.bool b :: cx).toArray := by
    apply Array.toList_inj.1
    rw [fold_setsA]
    have := sets_mid cx zc [.bool b] [] (by omega)
    simpa using this
  rw [e1, Instr.fill, h0]
  simp only [e2]
  rw [if_neg (by simp), f0, Instr.fill, h1]
  simp only [e3]
  rw [if_neg (by simp [hm, hc]; omega), f1, Instr.fill]
/-- A struct is built: its parts said as a list. -/
theorem wpList_buildL {P : Program} {ops : Array Oper} {rest : List Oper} {o : Oper} {a : Act} {w : World} {Q : Exit → Act → World → Prop} (hg : o.guard = none) (t : TypeId) (parts : Array (Nat × Operand)) (ho : o.op = .build t parts)
    (d : Option Tmp) (hd : o.dst = d) (vs : List (Nat × Value)) (hv : parts.toList.map (fun (i, x) => (i, a.eval x)) = vs) (cells : Array Value) (hf : P.built t vs = some cells)
    (h : wpList P ops Q rest (a.put d (.agg cells)) w) : wpList P ops Q (o :: rest) a w :=
  wpList_buildTo hg t parts ho d hd cells (by rw [Array.toList_map, hv]; exact hf) h
theorem wpList_buildSliceL {P : Program} {ops : Array Oper} {rest : List Oper} {o : Oper} {a : Act} {w : World} {Q : Exit → Act → World → Prop} (hg : o.guard = none) (t e : TypeId) (len : Nat) (parts : Array (Nat × Operand)) (ho : o.op = .buildSlice t len parts)
    (N : Nat) (hN : w.heap.size = N) (dst : Option Tmp) (hdst : o.dst = dst) (hu : P.underlying t = some (.slice e)) (vs : List (Nat × Value)) (hv : parts.toList.map (fun (i, x) => (i, a.eval x)) = vs) (cells : Array Value) (hf : P.builtSlice e len vs = some cells)
    (h : wpList P ops Q rest (a.put dst (.slice (some ⟨N, 0, none⟩) len len)) (w.alloc (.cells cells e))) : wpList P ops Q (o :: rest) a w :=
  Great.wpList_buildSliceTo hg t e len parts ho N hN dst hdst hu cells (by rw [Array.toList_map, hv]; exact hf) h
theorem x_buildL {P : Program} {o : Oper} {a : Act} {w : World} (t : TypeId) (parts : Array (Nat × Operand)) (ho : o.op = .build t parts) (vs : List (Nat × Value)) (hv : parts.toList.map (fun (i, x) => (i, a.eval x)) = vs) (cells : Array Value) (hf : P.built t vs = some cells) :
    (execOp a.eval o).run P w = .ok (.value (.agg cells)) w := by
  have e : (parts.map fun (i, x) => (i, a.eval x)).toList = vs := by rw [Array.toList_map, hv]
  unfold execOp
  simp only [ho, Sem.run_bind, run_build w t _ cells (by rw [e]; exact hf), Result.andThen_ok, Sem.run_pure]
/-- The rest of a walk asks of a world only this. -/
theorem with_worldT {P : Program} {c : Code} {Q : Exit → Act → World → Prop} {a : Act} {W0 : World} (F : World → Prop) (h0 : F W0) (h : ∀ W, F W → c.wp P Q a W) : c.wp P Q a W0 := h _ h0
theorem with_worldTL {P : Program} {ops : Array Oper} {rest : List Oper} {Q : Exit → Act → World → Prop} {a : Act} {W0 : World} (F : World → Prop) (h0 : F W0) (h : ∀ W, F W → wpList P ops Q rest a W) : wpList P ops Q rest a W0 := h _ h0
end Go.Proofs.Ytoppgdhidnpibaa
