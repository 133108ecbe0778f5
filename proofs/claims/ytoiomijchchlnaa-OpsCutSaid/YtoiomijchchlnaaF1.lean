
import Derived.Test.YtoiomijchchlnaaD9
/- F1: an op, a row of ops that came in or that is made -/
namespace Go.Proofs.Ytoiomijchchlnaa
open Go.RowKit Go.ChangeShapes Go.WideShapes Go.Deep
set_option linter.unusedVariables false

/-- An op as it is laid; an op as plain data. -/
structure OpV where
  k : Int
  n : Int
  ra : Option Addr
  rl : Nat
  rc : Nat
  sa : Option Addr
  sl : Nat
  sc : Nat
  pa : Option Addr
  pl : Nat
  pc : Nat
structure Opn where
  k : Int
  n : Int
  rs : List Int
  st : List Att
  pt : List Chg
@[reducible] def opcs (k n : Int) (ra : Option Addr) (rl rc : Nat) (sa : Option Addr) (sl sc : Nat) (pa : Option Addr) (pl pc : Nat) : Array Value := #[.int .u8 k, .int .i64 n, .slice ra rl rc, .slice sa sl sc, .slice pa pl pc]
def opC : Cel OpV := ⟨fun o => [.int .u8 o.k, .int .i64 o.n, .slice o.ra o.rl o.rc, .slice o.sa o.sl o.sc, .slice o.pa o.pl o.pc], 5, fun _ => rfl, fun o u hu => by
  simp only [List.mem_cons, List.not_mem_nil, or_false] at hu
  rcases hu with rfl | rfl | rfl | rfl | rfl <;> rfl, by decide⟩
/-- What is true of its numbers. -/
structure OpW (p : Opn) : Prop where
  k : (Lit.int .u8 p.k).wf = true
  n : (Lit.int .i64 p.n).wf = true
  s : ∀ a ∈ p.st, AttW a
  p : ∀ c ∈ p.pt, ChgW c
/-- An op that reads so. -/
structure OpR (w : World) (o : OpV) (p : Opn) : Prop where
  k : o.k = p.k
  n : o.n = p.n
  r : Ints .i32 w (.slice o.ra o.rl o.rc) p.rs
  s : Arow w (.slice o.sa o.sl o.sc) p.st
  p : Crow w (.slice o.pa o.pl o.pc) p.pt
theorem OpR.below {w w' : World} {o : OpV} {p : Opn} (h : OpR w o p) (hb : Below w.heap.size w w') : OpR w' o p := ⟨h.k, h.n, h.r.below hb, h.s.below hb (Nat.le_refl _), h.p.below hb (Nat.le_refl _)⟩
theorem OpR.ll {w : World} {o : OpV} {p : Opn} (h : OpR w o p) : o.rl = p.rs.length ∧ o.sl = p.st.length ∧ o.pl = p.pt.length := by
  obtain ⟨a, c, e⟩ := h.r.shape
  obtain ⟨a2, c2, e2⟩ := h.s.shape
  obtain ⟨a3, c3, e3⟩ := h.p.shape
  injection e with _ e _
  injection e2 with _ e2 _
  injection e3 with _ e3 _
  exact ⟨e, e2, e3⟩
/-- An op by value. -/
def OpAt (w : World) (v : Value) (p : Opn) : Prop := ∃ ra rc sa sc pa pc, v = .agg (opcs p.k p.n ra p.rs.length rc sa p.st.length sc pa p.pt.length pc) ∧ Ints .i32 w (.slice ra p.rs.length rc) p.rs ∧ Arow w (.slice sa p.st.length sc) p.st ∧ Crow w (.slice pa p.pt.length pc) p.pt
theorem OpAt.below {w w' : World} {v : Value} {p : Opn} (h : OpAt w v p) (hb : Below w.heap.size w w') : OpAt w' v p := by
  obtain ⟨ra, rc, sa, sc, pa, pc, h1, h2, h3, h4⟩ := h
  exact ⟨ra, rc, sa, sc, pa, pc, h1, h2.below hb, h3.below hb (Nat.le_refl _), h4.below hb (Nat.le_refl _)⟩
/-- A slice of ops that reads as ls. -/
def Orow (w : World) (v : Value) (ls : List Opn) : Prop := ∃ ss : List OpV, Row opC w v ss ∧ ss.length = ls.length ∧ ∀ j (h1 : j < ss.length) (h2 : j < ls.length), OpR w ss[j] ls[j]
theorem Orow.shape {w : World} {v : Value} {ls : List Opn} (h : Orow w v ls) : ∃ a cap, v = .slice a ls.length cap := by
  obtain ⟨ss, h1, h2, -⟩ := h
  obtain ⟨a, cap, rfl⟩ := h1.shape
  exact ⟨a, cap, by rw [h2]⟩
theorem Orow.len {w : World} {v : Value} {ls : List Opn} (h : Orow w v ls) : ls.length ≤ 9223372036854775807 := by
  obtain ⟨ss, h1, h2, -⟩ := h
  have := h1.len
  rwa [h2] at this
theorem Orow.below {w w' : World} {v : Value} {ls : List Opn} (h : Orow w v ls) (hb : Below w.heap.size w w') : Orow w' v ls := by
  obtain ⟨ss, h1, h2, h3⟩ := h
  exact ⟨ss, h1.below hb (Nat.le_refl _), h2, fun j q1 q2 => (h3 j q1 q2).below hb⟩
theorem Orow.opn {w : World} {a : Option Addr} {n cap : Nat} {ls : List Opn} (h : Orow w (.slice a n cap) ls) (h0 : 0 < ls.length) :
    ∃ b off, a = some ⟨b, off, none⟩ ∧ n = ls.length ∧ ls.length ≤ cap ∧ cap ≤ maxLen ∧ b < w.heap.size ∧ (∀ j (hj : j < ls.length), ∃ ra rc sa sc pa pc,
      w.cell? ⟨b, off + j * 5, none⟩ = some (.int .u8 ls[j].k) ∧ w.cell? ⟨b, off + j * 5 + 1, none⟩ = some (.int .i64 ls[j].n) ∧ w.cell? ⟨b, off + j * 5 + 2, none⟩ = some (.slice ra ls[j].rs.length rc) ∧ w.cell? ⟨b, off + j * 5 + 3, none⟩ = some (.slice sa ls[j].st.length sc) ∧ w.cell? ⟨b, off + j * 5 + 4, none⟩ = some (.slice pa ls[j].pt.length pc) ∧
      Ints .i32 w (.slice ra ls[j].rs.length rc) ls[j].rs ∧ Arow w (.slice sa ls[j].st.length sc) ls[j].st ∧ Crow w (.slice pa ls[j].pt.length pc) ls[j].pt) := by
  obtain ⟨ss, h1, h2, h3⟩ := h
  obtain ⟨b, off, ha, hn, hc, hm, hb, hat, -⟩ := Row.opened h1 (by omega)
  refine ⟨b, off, ha, by omega, by omega, hm, hb, fun j hj => ?_⟩
  have hj' : j < ss.length := by omega
  have hr := h3 j hj' hj
  obtain ⟨l1, l2, l3⟩ := hr.ll
  have c0 := hat j hj' 0 _ rfl
  have c1 := hat j hj' 1 _ rfl
  have c2 := hat j hj' 2 _ rfl
  have c3 := hat j hj' 3 _ rfl
  have c4 := hat j hj' 4 _ rfl
  have q1 := hr.r
  have q2 := hr.s
  have q3 := hr.p
  rw [l1] at c2 q1
  rw [l2] at c3 q2
  rw [l3] at c4 q3
  rw [hr.k] at c0
  rw [hr.n] at c1
  exact ⟨_, _, _, _, _, _, c0, c1, c2, c3, c4, q1, q2, q3⟩
/-- Its parts, as Go cuts them. -/
theorem Orow.head {w : World} {a : Option Addr} {n cap hi : Nat} {ls : List Opn} (h : Orow w (.slice a n cap) ls) (h2 : hi ≤ ls.length) : Orow w (.slice a hi cap) (ls.take hi) := by
  obtain ⟨ss, h1, e, h3⟩ := h
  refine ⟨ss.take hi, h1.head (by omega), by simp [e], fun j q1 q2 => ?_⟩
  rw [List.getElem_take, List.getElem_take]
  exact h3 j _ _
theorem Orow.tail {w : World} {a : Option Addr} {n cap lo : Nat} {ls : List Opn} (h : Orow w (.slice a n cap) ls) (h1 : lo ≤ ls.length) :
    (cap = lo → Orow w (.slice a (ls.length - lo) 0) (ls.drop lo)) ∧ (¬ cap = lo → Orow w (.slice (a.map fun x => x.add (lo * 5)) (ls.length - lo) (cap - lo)) (ls.drop lo)) := by
  obtain ⟨ss, k1, e, h3⟩ := h
  have k2 := k1.tail (lo := lo) (by omega)
  have hj : ∀ j (q1 : j < (ss.drop lo).length) (q2 : j < (ls.drop lo).length), OpR w (ss.drop lo)[j] (ls.drop lo)[j] := fun j q1 q2 => by
    rw [List.getElem_drop, List.getElem_drop]
    exact h3 _ _ _
  refine ⟨fun hc => ⟨ss.drop lo, ?_, by simp [e], hj⟩, fun hc => ⟨ss.drop lo, ?_, by simp [e], hj⟩⟩
  · rw [← e]; exact k2.1 hc
  · rw [← e]; exact k2.2 hc
theorem Orow.nil (w : World) : Orow w (.slice none 0 0) [] := ⟨[], Row.nil w, rfl, fun j h => by simp at h⟩
/-- A row that is built of ops. -/
theorem orow_built (w : World) (t : TypeId) (ss : List OpV) (ls : List Opn) (hm : ss.length ≤ maxLen) (e : ss.length = ls.length) (h : ∀ j (h1 : j < ss.length) (h2 : j < ls.length), OpR w ss[j] ls[j]) (hb : Below w.heap.size w (w.alloc (.cells (fl opC ss).toArray t))) :
    Orow (w.alloc (.cells (fl opC ss).toArray t)) (.slice (some ⟨w.heap.size, 0, none⟩) ss.length ss.length) ls := ⟨ss, Row.built w t ss hm, e, fun j q1 q2 => (h j q1 q2).below hb⟩

section
variable {H : Type} {enc : TypeId × Value → H} {w : World} {base : Nat} {spare : Nat → Bool} {held : Bool}
theorem op_fields : Try.prog.underlying 41 = some (.struct (Try.prog.fieldsOf 41)) := by kernel_rfl
theorem op_one : oneCellFields Try.prog (Try.prog.fieldsOf 41) = true := by kernel_rfl
theorem op_cells : Try.prog.cellsOf 41 = 5 := by kernel_rfl
theorem op_types : (Try.prog.fieldsOf 41).map (·.type) = #[5, 3, 37, 38, 39] := by kernel_rfl
theorem op_size : (Try.prog.fieldsOf 41).size = 5 := by kernel_rfl
set_option maxRecDepth 100000 in
theorem open_op {n : Nat} {cs : List Value} {y : DataW H × List MemPlace} (h : DataW.trod enc Try.prog w base spare held n 41 cs = some y) : ∃ o : OpV, (∃ p, OpR w o p ∧ OpW p) ∧ cs = opC.c o := by
  obtain ⟨ys, m, -, hy, hlen, hys, hf⟩ := DataW.trod_struct op_fields h
  rw [op_cells] at hlen
  rw [op_size] at hys
  have hj : ∀ (j : Nat) (t : TypeId), (#[5, 3, 37, 38, 39] : Array TypeId)[j]? = some t → DataW.trod enc Try.prog w base spare held m t ((cs.drop j).take 1) = ys[j]? := by
    intro j t hjt
    rw [← op_types, Array.getElem?_map, Option.map_eq_some_iff] at hjt
    obtain ⟨f, hfj, rfl⟩ := hjt
    obtain ⟨ho, hk⟩ := hone_of op_one j f hfj
    have := hf j f hfj
    rwa [ho, hk] at this
  clear hf h
  match cs, hlen with
  | [c0, c1, c2, c3, c4], _ =>
    match ys, hys with
    | [y0, y1, y2, y3, y4], _ =>
      have h0 : DataW.trod enc Try.prog w base spare held m 5 [c0] = some y0 := hj 0 _ rfl
      have h1 : DataW.trod enc Try.prog w base spare held m 3 [c1] = some y1 := hj 1 _ rfl
      have h2 : DataW.trod enc Try.prog w base spare held m 37 [c2] = some y2 := hj 2 _ rfl
      have h3 : DataW.trod enc Try.prog w base spare held m 38 [c3] = some y3 := hj 3 _ rfl
      have h4 : DataW.trod enc Try.prog w base spare held m 39 [c4] = some y4 := hj 4 _ rfl
      obtain ⟨a0, e0, rfl, w0⟩ := DataW.trod_int Try.underlying5 h0
      obtain ⟨a1, e1, rfl, w1⟩ := DataW.trod_int Try.underlying3 h1
      obtain ⟨rs, q2⟩ := open_ints h2
      obtain ⟨st, q3, z3, -⟩ := open_ats h3
      obtain ⟨pt, q4, z4, -⟩ := open_chs h4
      simp only [List.cons.injEq, and_true] at e0 e1
      subst e0 e1
      obtain ⟨a, cap, rfl⟩ := q2.shape
      obtain ⟨a', cap', rfl⟩ := q3.shape
      obtain ⟨a'', cap'', rfl⟩ := q4.shape
      exact ⟨⟨a0, a1, a, rs.length, cap, a', st.length, cap', a'', pt.length, cap''⟩, ⟨⟨a0, a1, rs, st, pt⟩, ⟨rfl, rfl, q2, q3, q4⟩, ⟨w0, w1, z3, z4⟩⟩, rfl⟩
/-- A slice of ops that came in. -/
theorem open_ops {n : Nat} {v : Value} {x : DataW H × List MemPlace} (h : DataW.trod enc Try.prog w base spare held n 23 [v] = some x) : ∃ ls : List Opn, Orow w v ls ∧ ∀ p ∈ ls, OpW p := by
  obtain ⟨ss, h1, h2⟩ := open_rowP opC (fun o => ∃ p, OpR w o p ∧ OpW p) Try.underlying23 op_cells (fun n cs y hy => open_op hy) h
  have hch : ∀ o : OpV, ∃ p : Opn, o ∈ ss → OpR w o p ∧ OpW p := fun o => by
    by_cases ho : o ∈ ss
    · obtain ⟨p, q⟩ := h2 o ho
      exact ⟨p, fun _ => q⟩
    · exact ⟨⟨0, 0, [], [], []⟩, fun hc => absurd hc ho⟩
  obtain ⟨f, hf⟩ := Classical.axiomOfChoice hch
  refine ⟨ss.map f, ⟨ss, h1, by simp, fun j q1 q2 => ?_⟩, fun p hp => ?_⟩
  · rw [List.getElem_map]; exact (hf _ (List.getElem_mem q1)).1
  · obtain ⟨o, ho, rfl⟩ := List.mem_map.1 hp
    exact (hf o ho).2
end
end Go.Proofs.Ytoiomijchchlnaa
