
import Derived.Test.YtiobcifpebehnaaDoorIF
import Derived.Test.YtiobcifpebehnaaDoorJC
import Derived.Test.YtiobcifpebehnaaDoorJD
import Derived.Test.YtiobcifpebehnaaDoorI24
import Derived.Test.YtiobcifpebehnaaDoorS11
/- J13 -/
/- J13: a row of calls that came in -/
namespace Go.Proofs.YtiobcifpebehnaaDoor
open Go.RowKit Go.ChangeShapes Go.WideShapes Go.Deep
set_option linter.unusedVariables false

/-- A call as it is laid; a call as plain data. -/
structure OpV where
  k : Int
  i : Int
  s : SV
structure OpL where
  k : Int
  i : Int
  x : List Att
def opC : Cel OpV := ⟨fun o => [.int .i64 o.k, .int .i64 o.i, o.s.v], 3, fun _ => rfl, fun o u hu => by
  rcases List.mem_cons.1 hu with rfl | hu
  · rfl
  · rcases List.mem_cons.1 hu with rfl | hu
    · rfl
    · obtain rfl := List.mem_singleton.1 hu
      rfl, by decide⟩
/-- What lies in a call: its numbers are within an int, its attributes may lie. -/
structure OpW (o : OpL) : Prop where
  k : (Lit.int .i64 o.k).wf = true
  i : (Lit.int .i64 o.i).wf = true
  x : ∀ a ∈ o.x, AttW a
def UpB (ls : List OpL) : Prop := ∀ o ∈ ls, ∀ a ∈ o.x, a.s.size ≤ 1048576
/-- A slice of calls that reads as ls. -/
def Orow (w : World) (v : Value) (ls : List OpL) : Prop := ∃ (ss : List OpV) (f : OpV → List Att), Row opC w v ss ∧ ls = ss.map (fun o => ⟨o.k, o.i, f o⟩) ∧ ∀ o ∈ ss, Arow w o.s.v (f o)
theorem Orow.shape {w : World} {v : Value} {ls : List OpL} (h : Orow w v ls) : ∃ a cap, v = .slice a ls.length cap := by
  obtain ⟨ss, f, h1, rfl, -⟩ := h
  obtain ⟨a, cap, rfl⟩ := h1.shape
  exact ⟨a, cap, by simp⟩
theorem Orow.len {w : World} {v : Value} {ls : List OpL} (h : Orow w v ls) : ls.length ≤ 9223372036854775807 := by
  obtain ⟨ss, f, h1, rfl, -⟩ := h
  have := h1.len
  simpa using this
theorem Orow.opn {w : World} {a : Option Addr} {n cap : Nat} {ls : List OpL} (h : Orow w (.slice a n cap) ls) (h0 : 0 < ls.length) :
    ∃ b off, a = some ⟨b, off, none⟩ ∧ n = ls.length ∧ ls.length ≤ cap ∧ cap ≤ maxLen ∧ b < w.heap.size ∧ (∀ j (hj : j < ls.length), ∃ xa xc,
      w.cell? ⟨b, off + j * 3, none⟩ = some (.int .i64 ls[j].k) ∧ w.cell? ⟨b, off + j * 3 + 1, none⟩ = some (.int .i64 ls[j].i) ∧ w.cell? ⟨b, off + j * 3 + 2, none⟩ = some (.slice xa ls[j].x.length xc) ∧ Arow w (.slice xa ls[j].x.length xc) ls[j].x) := by
  obtain ⟨ss, f, h1, rfl, h3⟩ := h
  rw [List.length_map] at h0
  obtain ⟨b, off, ha, hn, hc, hm, hb, hat, -⟩ := Row.opened h1 h0
  refine ⟨b, off, ha, by rw [List.length_map]; exact hn, by rw [List.length_map]; exact hc, hm, hb, fun j hj => ?_⟩
  have hj' : j < ss.length := by simpa using hj
  have hr := h3 ss[j] (List.getElem_mem hj')
  have c0 := hat j hj' 0 _ rfl
  have c1 := hat j hj' 1 _ rfl
  have c2 := hat j hj' 2 _ rfl
  rw [List.getElem_map]
  obtain ⟨xa, xc, e⟩ := hr.shape
  rw [e] at hr c2
  exact ⟨xa, xc, c0, c1, c2, hr⟩

section
variable {H : Type} {enc : TypeId × Value → H} {w : World} {base : Nat} {spare : Nat → Bool} {held : Bool}
theorem bulk_mem {d : DataW H} : ∀ {l : List (DataW H)}, d ∈ l → Rows.uptoBulk d ≤ Rows.uptoBulkAll l
  | x :: r, h => by
    rw [Rows.uptoBulkAll]
    rcases List.mem_cons.1 h with rfl | h
    · omega
    · have := bulk_mem h; omega
theorem upb_le {ds : List (DataW H)} (hk : Rows.uptoSmall H ds = true) {d : DataW H} (hm : d ∈ ds) : Rows.uptoBulk d ≤ 1048576 := by
  have h : Rows.uptoBulkAll ds ≤ 1048576 := of_decide_eq_true hk
  exact Nat.le_trans (bulk_mem hm) h
/-- A slice that came in, whatever its elements are, with what is known of them by their bulk. -/
theorem open_rowB {α : Type} (C : Cel α) (P : Nat → α → Prop) (hmono : ∀ b b' x, b ≤ b' → P b x → P b' x) {t e : TypeId} (ht : Tryd.prog.underlying t = some (.slice e)) (hce : Tryd.prog.cellsOf e = C.m)
    (hel : ∀ (n : Nat) (cs : List Value) (y : DataW H × List MemPlace), DataW.trod enc Tryd.prog w base spare held n e cs = some y → ∃ x, P (Rows.uptoBulk y.1) x ∧ cs = C.c x)
    {n : Nat} {v : Value} {x : DataW H × List MemPlace} (h : DataW.trod enc Tryd.prog w base spare held n t [v] = some x) : ∃ xs, Row C w v xs ∧ ∀ a ∈ xs, P (Rows.uptoBulk x.1) a := by
  rcases open_slice ht h with ⟨hcs, -⟩ | ⟨a, len, cap, m, n', D, Pl, hcs, -, hl, hm, hmm, hx, hi⟩
  · injection hcs with hv _
    subst hv
    exact ⟨[], Row.nil w, by simp⟩
  · injection hcs with hv _
    subst hv
    have hlm : len ≤ m := by rw [hmm]; split <;> omega
    have hex : ∀ i : Fin len, ∃ k : α, P (Rows.uptoBulk x.1) k ∧ ∀ j u, (C.c k)[j]? = some u → w.cell? (a.add (i.1 * C.m + j)) = some u := by
      rintro ⟨i, hil⟩
      obtain ⟨cs', hc, ht⟩ := hi i (by omega)
      obtain ⟨k, hw, rfl⟩ := hel _ _ _ ht
      rw [hce] at hc
      obtain ⟨-, hcl, hat⟩ := World.cells?_some hc
      refine ⟨k, hmono _ _ _ ?_ hw, fun j u hu => ?_⟩
      · rw [hx]
        have h1 : D i ∈ (List.range len).map D := List.mem_map_of_mem (List.mem_range.2 hil)
        have h2 := bulk_mem h1
        show Rows.uptoBulk (D i) ≤ Rows.uptoBulk (DataW.slice ((List.range len).map D) _)
        rw [Rows.uptoBulk]
        omega
      have hj : j < C.m := by have := (List.getElem?_eq_some_iff.1 hu).1; rwa [C.len] at this
      have := hat j hj
      rw [hu, add_add] at this
      exact this
    obtain ⟨f, hf⟩ := Classical.axiomOfChoice hex
    have hlen : (List.ofFn f).length = len := by simp
    refine ⟨List.ofFn f, ?_, fun k hk => ?_⟩
    · by_cases h0 : len = 0
      · subst h0
        exact .inl ⟨some a, cap, rfl, by simp, hm, by simp⟩
      · obtain ⟨b, off, spot⟩ := a
        have hp : 0 < (C.c (f ⟨0, by omega⟩)).length := by rw [C.len]; exact C.pos
        have hspot : spot = none := by
          have := (hf ⟨0, by omega⟩).2 0 _ (List.getElem?_eq_getElem hp)
          simpa [Addr.add] using World.cell?_spot this
        subst hspot
        refine .inr ⟨b, off, cap, by rw [hlen], by omega, by omega, hm, fun j u hu => ?_⟩
        have hjl : j < len * C.m := by
          have := (List.getElem?_eq_some_iff.1 hu).1
          rwa [fl_len, hlen] at this
        have e1 : j / C.m * C.m + j % C.m = j := by rw [Nat.mul_comm]; exact Nat.div_add_mod j C.m
        have hd : j / C.m < len := by rw [Nat.div_lt_iff_lt_mul C.pos]; exact hjl
        have g := fl_get C (List.ofFn f) (j / C.m) (j % C.m) (by omega) (Nat.mod_lt _ C.pos)
        rw [e1, hu] at g
        have := (hf ⟨j / C.m, hd⟩).2 (j % C.m) u (by rw [g]; simp)
        rw [e1, Go.WideShapes.add_plain] at this
        exact this
    · obtain ⟨i, rfl⟩ := List.mem_ofFn.1 hk
      exact (hf i).1

set_option maxRecDepth 100000 in
theorem open_valB {n : Nat} {cs : List Value} {y : DataW H × List MemPlace} (h : DataW.trod enc Tryd.prog w base spare held n 45 cs = some y) :
    ∃ (k n' f : Int) (s : ByteArray), (Lit.int .u8 k).wf = true ∧ (Lit.int .i64 n').wf = true ∧ (Lit.int .u64 f).wf = true ∧ s.size ≤ maxLen ∧ cs = [.int .u8 k, .int .i64 n', .int .u64 f, .string s] ∧ s.size ≤ Rows.uptoBulk y.1 := by
  obtain ⟨ys, m, -, hy, hlen, hys, hf⟩ := DataW.trod_struct value_fields5 h
  rw [value_cells5] at hlen
  rw [value_size5] at hys
  have hj : ∀ (j : Nat) (t : TypeId), (#[5, 2, 43, 9] : Array TypeId)[j]? = some t → DataW.trod enc Tryd.prog w base spare held m t ((cs.drop j).take 1) = ys[j]? := by
    intro j t hjt
    rw [← value_types5, Array.getElem?_map, Option.map_eq_some_iff] at hjt
    obtain ⟨f, hfj, rfl⟩ := hjt
    obtain ⟨ho, hk⟩ := hone_of value_one5 j f hfj
    have := hf j f hfj
    rwa [ho, hk] at this
  clear hf h
  match cs, hlen with
  | [c0, c1, c2, c3], _ =>
    match ys, hys with
    | [y0, y1, y2, y3], _ =>
      have h0 : DataW.trod enc Tryd.prog w base spare held m 5 [c0] = some y0 := hj 0 _ rfl
      have h1 : DataW.trod enc Tryd.prog w base spare held m 2 [c1] = some y1 := hj 1 _ rfl
      have h2 : DataW.trod enc Tryd.prog w base spare held m 43 [c2] = some y2 := hj 2 _ rfl
      have h3 : DataW.trod enc Tryd.prog w base spare held m 9 [c3] = some y3 := hj 3 _ rfl
      obtain ⟨a0, e0, rfl, w0⟩ := DataW.trod_int Tryd.underlying5 h0
      obtain ⟨a1, e1, rfl, w1⟩ := DataW.trod_int Tryd.underlying2 h1
      obtain ⟨a2, e2, rfl, w2⟩ := DataW.trod_int Tryd.underlying43 h2
      obtain ⟨a3, e3, rfl, w3⟩ := DataW.trod_string Tryd.underlying9 h3
      simp only [List.cons.injEq, and_true] at e0 e1 e2 e3
      subst e0 e1 e2 e3
      refine ⟨a0, a1, a2, a3, w0, w1, w2, w3, rfl, ?_⟩
      have e2 : a3.data.toList.length = a3.size := by rw [Array.length_toList]; rfl
      rw [hy]
      show _ ≤ Rows.uptoBulk (DataW.agg [.lit _, .lit _, .lit _, .lit (.string a3.data.toList)])
      simp only [Rows.uptoBulk, Rows.uptoBulkAll]
      omega

set_option maxRecDepth 100000 in
theorem open_attB {n : Nat} {cs : List Value} {y : DataW H × List MemPlace} (h : DataW.trod enc Tryd.prog w base spare held n 47 cs = some y) : ∃ a : Att, (AttW a ∧ a.s.size ≤ Rows.uptoBulk y.1) ∧ cs = ac a := by
  obtain ⟨ys, m, -, hy, hlen, hys, hf⟩ := DataW.trod_struct att_fields h
  rw [att_cells] at hlen
  rw [att_size] at hys
  have hj : ∀ (j : Nat) (t : TypeId) (o : Nat), (#[(3, 0), (45, 1)] : Array (TypeId × Nat))[j]? = some (t, o) → DataW.trod enc Tryd.prog w base spare held m t ((cs.drop o).take (Tryd.prog.cellsOf t)) = ys[j]? := by
    intro j t o hjt
    rw [← att_types, Array.getElem?_map, Option.map_eq_some_iff] at hjt
    obtain ⟨f, hfj, e⟩ := hjt
    simp only [Prod.mk.injEq] at e
    obtain ⟨rfl, rfl⟩ := e
    exact hf j f hfj
  clear hf h
  match cs, hlen with
  | [c0, c1, c2, c3, c4], _ =>
    match ys, hys with
    | [y0, y1], _ =>
      have h0 := hj 0 3 0 rfl
      have h1 := hj 1 45 1 rfl
      rw [int_cells5] at h0
      rw [value_cells5] at h1
      have h0' : DataW.trod enc Tryd.prog w base spare held m 3 [c0] = some y0 := h0
      have h1' : DataW.trod enc Tryd.prog w base spare held m 45 [c1, c2, c3, c4] = some y1 := h1
      obtain ⟨a0, e0, rfl, w0⟩ := DataW.trod_int Tryd.underlying3 h0'
      obtain ⟨k, n', f, s, w1, w2, w3, w4, e1, hd⟩ := open_valB h1'
      simp only [List.cons.injEq, and_true] at e0 e1
      obtain ⟨rfl, rfl, rfl, rfl⟩ := e1
      subst e0
      refine ⟨⟨a0, k, n', f, s⟩, ⟨⟨w0, w1, w2, w3, w4⟩, ?_⟩, rfl⟩
      rw [hy]
      show _ ≤ Rows.uptoBulk (DataW.agg [.lit _, y1.1])
      simp only [Rows.uptoBulk, Rows.uptoBulkAll]
      show s.size ≤ _
      omega
set_option maxRecDepth 100000 in
theorem open_attsB {n : Nat} {v : Value} {x : DataW H × List MemPlace} (h : DataW.trod enc Tryd.prog w base spare held n 37 [v] = some x) : ∃ xs, Arow w v xs ∧ ∀ a ∈ xs, AttW a ∧ a.s.size ≤ Rows.uptoBulk x.1 :=
  open_rowB attC (fun b a => AttW a ∧ a.s.size ≤ b) (fun b b' x hb h => ⟨h.1, Nat.le_trans h.2 hb⟩) Tryd.underlying37 att_cells (fun n cs y hy => open_attB hy) h

theorem op_fields : Tryd.prog.underlying 39 = some (.struct (Tryd.prog.fieldsOf 39)) := by kernel_rfl
theorem op_one : oneCellFields Tryd.prog (Tryd.prog.fieldsOf 39) = true := by kernel_rfl
theorem op_cells : Tryd.prog.cellsOf 39 = 3 := by kernel_rfl
theorem op_types : (Tryd.prog.fieldsOf 39).map (·.type) = #[3, 3, 37] := by kernel_rfl
theorem op_size : (Tryd.prog.fieldsOf 39).size = 3 := by kernel_rfl
/-- What is known of a call that came in. -/
def OpP (w : World) (b : Nat) (o : OpV) : Prop := (Lit.int .i64 o.k).wf = true ∧ (Lit.int .i64 o.i).wf = true ∧ ∃ xs, Arow w o.s.v xs ∧ ∀ a ∈ xs, AttW a ∧ a.s.size ≤ b
set_option maxRecDepth 100000 in
theorem open_op {n : Nat} {cs : List Value} {y : DataW H × List MemPlace} (h : DataW.trod enc Tryd.prog w base spare held n 39 cs = some y) : ∃ o : OpV, OpP w (Rows.uptoBulk y.1) o ∧ cs = opC.c o := by
  obtain ⟨ys, m, -, hy, hlen, hys, hf⟩ := DataW.trod_struct op_fields h
  rw [op_cells] at hlen
  rw [op_size] at hys
  have hj : ∀ (j : Nat) (t : TypeId), (#[3, 3, 37] : Array TypeId)[j]? = some t → DataW.trod enc Tryd.prog w base spare held m t ((cs.drop j).take 1) = ys[j]? := by
    intro j t hjt
    rw [← op_types, Array.getElem?_map, Option.map_eq_some_iff] at hjt
    obtain ⟨f, hfj, rfl⟩ := hjt
    obtain ⟨ho, hk⟩ := hone_of op_one j f hfj
    have := hf j f hfj
    rwa [ho, hk] at this
  clear hf h
  match cs, hlen with
  | [c0, c1, c2], _ =>
    match ys, hys with
    | [y0, y1, y2], _ =>
      have h0 : DataW.trod enc Tryd.prog w base spare held m 3 [c0] = some y0 := hj 0 _ rfl
      have h1 : DataW.trod enc Tryd.prog w base spare held m 3 [c1] = some y1 := hj 1 _ rfl
      have h2 : DataW.trod enc Tryd.prog w base spare held m 37 [c2] = some y2 := hj 2 _ rfl
      obtain ⟨a0, e0, rfl, w0⟩ := DataW.trod_int Tryd.underlying3 h0
      obtain ⟨a1, e1, rfl, w1⟩ := DataW.trod_int Tryd.underlying3 h1
      obtain ⟨xs, q1, q2⟩ := open_attsB h2
      simp only [List.cons.injEq, and_true] at e0 e1
      subst e0 e1
      obtain ⟨a, cap, rfl⟩ := q1.shape
      refine ⟨⟨a0, a1, ⟨a, xs.length, cap⟩⟩, ⟨w0, w1, xs, q1, fun b hb => ⟨(q2 b hb).1, Nat.le_trans (q2 b hb).2 ?_⟩⟩, rfl⟩
      rw [hy]
      show _ ≤ Rows.uptoBulk (DataW.agg [.lit _, .lit _, y2.1])
      simp only [Rows.uptoBulk, Rows.uptoBulkAll]
      omega
set_option maxRecDepth 100000 in
/-- A slice of calls that came in. -/
theorem open_ops {n : Nat} {v : Value} {x : DataW H × List MemPlace} (h : DataW.trod enc Tryd.prog w base spare held n 23 [v] = some x) :
    ∃ ls : List OpL, Orow w v ls ∧ (∀ o ∈ ls, OpW o) ∧ ∀ o ∈ ls, ∀ a ∈ o.x, a.s.size ≤ Rows.uptoBulk x.1 := by
  obtain ⟨ss, h1, h2⟩ := open_rowB opC (OpP w) (fun b b' o hb ⟨p1, p2, xs, p3, p4⟩ => ⟨p1, p2, xs, p3, fun a ha => ⟨(p4 a ha).1, Nat.le_trans (p4 a ha).2 hb⟩⟩) Tryd.underlying23 op_cells (fun n cs y hy => open_op hy) h
  have hch : ∀ o : OpV, ∃ xs : List Att, o ∈ ss → Arow w o.s.v xs ∧ ∀ a ∈ xs, AttW a ∧ a.s.size ≤ Rows.uptoBulk x.1 := fun o => by
    by_cases ho : o ∈ ss
    · obtain ⟨-, -, xs, q⟩ := h2 o ho
      exact ⟨xs, fun _ => q⟩
    · exact ⟨[], fun hc => absurd hc ho⟩
  obtain ⟨f, hf⟩ := Classical.axiomOfChoice hch
  refine ⟨ss.map (fun o => ⟨o.k, o.i, f o⟩), ⟨ss, f, h1, rfl, fun o ho => (hf o ho).1⟩, fun o ho => ?_, fun o ho => ?_⟩
  · obtain ⟨q, hq, rfl⟩ := List.mem_map.1 ho
    obtain ⟨p1, p2, -⟩ := h2 q hq
    exact ⟨p1, p2, fun a ha => ((hf q hq).2 a ha).1⟩
  · obtain ⟨q, hq, rfl⟩ := List.mem_map.1 ho
    exact fun a ha => ((hf q hq).2 a ha).2
end
end Go.Proofs.YtiobcifpebehnaaDoor

/- J14 -/
/- J14: one call of a script, on both tables -/
namespace Go.Proofs.YtiobcifpebehnaaDoor
open Go.RowKit
set_option linter.unusedVariables false

/-- What Add leaves behind, whether it may or not: the id, the table. -/
def aId (T : TabS) (X : List Att) : Nat := if may5 T.ks X = 0 then T.idOf X else 0
def aT (T : TabS) (X : List Att) : TabS := if may5 T.ks X = 0 then T.add X else T
theorem aT_ks (T : TabS) (X : List Att) : (aT T X).ks = T.ks := by
  unfold aT
  split
  · exact ks_add T X
  · rfl
section
variable {w0 : World} {B tb rb : Nat} {kv : Value} {S U : Nat → Prop} {T : TabS} {n : Nat} {wr : World}
/-- The two steps of one call, with what the tables have behind them. -/
theorem PlayR.step2 (h : PlayR w0 B tb rb kv S U T n wr) (hw : w0.heap.size ≤ B) {T' : TabS} {n' : Nat} {w1 w2 : World} (ht : Tb B (fun k => (S k ∧ k < wr.heap.size) ∨ wr.heap.size ≤ k) tb T' n' w1) (ho : Off (fun k => S k ∧ k < wr.heap.size) wr w1)
    (hr : RefR B (fun k => (U k ∧ k < wr.heap.size) ∨ w1.heap.size ≤ k) rb kv T' w2) (ho2 : Off (fun k => U k ∧ k < wr.heap.size) w1 w2) :
    ∃ S' U', PlayR w0 B tb rb kv S' U' T' n' w2 ∧ ∀ k, k < wr.heap.size → S' k ∨ U' k → S k ∨ U k := by
  have hB := h.t.hB
  have b1 := ho.below (fun k hk => h.t.sB k hk.1) hB
  have b2 : Below B w1 w2 := ho2.below (fun k hk => h.r.sB k hk.1) (Nat.le_trans hB ho.size)
  have hz := ho.size
  refine ⟨_, _, ⟨(ht.cut).kept ho2.size (fun k hk hS => ho2.block k hk (fun hx => ?_)), hr, (h.tab.on b1).on b2, (h.bel.trans (b1.mono hw)).trans (b2.mono hw), fun k h1 h2 => ?_⟩, fun k hk hh => ?_⟩
  · rcases hS with e | ⟨e | e, -⟩
    · have := h.r.sB k hx.1; omega
    · exact h.ap k e.1 hx.1
    · omega
  · rcases h1 with ⟨e | e, e2⟩
    · rcases h2 with f | f
      · exact h.ap k e.1 f.1
      · omega
    · rcases h2 with f | f
      · omega
      · omega
  · rcases hh with ⟨e | e, -⟩ | e | e
    · exact .inl e.1
    · omega
    · exact .inr e.1
    · omega
theorem PlayR.sS (h : PlayR w0 B tb rb kv S U T n wr) : ∀ k, S k ∨ U k → B ≤ k := fun k hk => by
  rcases hk with e | e
  · exact h.t.sB k e
  · exact h.r.sB k e

/-- Add, first of the table's. -/
theorem PlayR.add1 (h : PlayR w0 B tb rb kv S U T n wr) (hn : n ≤ 1000000) {v : Value} {X : List Att} (hv : Arow wr v X) (hW : ∀ a ∈ X, AttW a) (ho : Outs (fun k => S k ∧ k < wr.heap.size) v) :
    Calls Tryd.prog 14 #[.pointer (some ⟨tb, 0, none⟩), v] wr fun e w1 => e = .returned (.tuple #[.int .i64 (aId T X : Nat), .int .i64 (may5 T.ks X)]) ∧ Tb B (fun k => (S k ∧ k < wr.heap.size) ∨ wr.heap.size ≤ k) tb (aT T X) (n + 1) w1 ∧ Off (fun k => S k ∧ k < wr.heap.size) wr w1 := by
  have hB := h.t.hB
  refine (add7_any v X wr h.cut.t hv hW hn h.tab ho).mono fun e w1 hP => ?_
  unfold aId aT
  rcases hP with ⟨p1, p2, p3, p4⟩ | ⟨p1, p2, p3, p4⟩
  · rw [if_neg p1, if_neg p1]
    exact ⟨p2, (p3.mono (fun k hk => .inl hk) (fun k hk => by rcases hk with e | e; exact h.t.sB k e.1; omega)).le (by omega), Off.of_below p4⟩
  · rw [if_pos p1, if_pos p1, p1]
    exact ⟨p2, p3, p4⟩
/-- Then of the reference's. -/
theorem PlayR.add2 (h : PlayR w0 B tb rb kv S U T n wr) (hw : w0.heap.size ≤ B) (hn : n ≤ 1000000) {w1 : World} (ho : Off (fun k => S k ∧ k < wr.heap.size) wr w1) {ks : List Key} (hks : T.ks = ks) (hk : Krow w0 kv ks) {v : Value} {X : List Att} (hv : Arow w0 v X) (hW : ∀ a ∈ X, AttW a) (hS : ∀ a ∈ X, a.s.size ≤ 1048576) (hlX : X.length ≤ 1000000) :
    Calls Tryd.prog 15 #[.pointer (some ⟨rb, 0, none⟩), v] w1 fun e w2 => e = .returned (.tuple #[.int .i64 (aId T X : Nat), .int .i64 (may5 T.ks X)]) ∧ RefR B (fun k => (U k ∧ k < wr.heap.size) ∨ w1.heap.size ≤ k) rb kv (aT T X) w2 ∧ Off (fun k => U k ∧ k < wr.heap.size) w1 w2 := by
  have hB := h.t.hB
  have b1 : Below B wr w1 := ho.below (fun k hk => h.t.sB k hk.1) hB
  have b0 : Below w0.heap.size w0 w1 := h.bel.trans (b1.mono hw)
  have hz := ho.size
  have hr := h.ref ho
  have conv : ∀ e w2, RAddP B (fun k => U k ∧ k < wr.heap.size) rb kv T X w1 e w2 → (e = .returned (.tuple #[.int .i64 (aId T X : Nat), .int .i64 (may5 T.ks X)]) ∧ RefR B (fun k => (U k ∧ k < wr.heap.size) ∨ w1.heap.size ≤ k) rb kv (aT T X) w2 ∧ Off (fun k => U k ∧ k < wr.heap.size) w1 w2) := fun e w2 hP => by
    unfold aId aT
    rcases hP with ⟨p1, p2, p3, p4⟩ | ⟨p1, p2, p3, p4⟩
    · rw [if_neg p1, if_neg p1]
      exact ⟨p2, p3.mono (fun k hk => .inl hk) (fun k hk => by rcases hk with e | e; exact h.r.sB k e.1; omega), Off.of_below p4⟩
    · rw [if_pos p1, if_pos p1, p1]
      exact ⟨p2, p3, p4⟩
  have hk1 : Krow w1 kv T.ks := by rw [hks]; exact hk.below b0 (Nat.le_refl _)
  have hv1 : Arow w1 v X := hv.below b0 (Nat.le_refl _)
  rcases outs_below hv hw (S := fun k => U k ∧ k < wr.heap.size) (fun k hk => h.r.sB k hk.1) with hx | hx
  · exact (radd7 v X w1 hr hk1 hv1 hW hS h.t.ok h.t.leT hn hlX hx).mono conv
  · subst hx
    by_cases hm : may5 T.ks [] = 0
    · exact (radd_nil v w1 hr hk1 hv1 h.t.ok h.t.leT hn hm).mono conv
    · exact (radd_bad v [] w1 hr hk1 hv1 hW hS hm).mono conv
/-- Free, of an id that is there. -/
theorem PlayR.free1 (h : PlayR w0 B tb rb kv S U T n wr) (hn : n ≤ 1000000) {i : Nat} (hl : T.live i) :
    Calls Tryd.prog 16 #[.pointer (some ⟨tb, 0, none⟩), .int .i64 (i : Nat)] wr fun e w1 => e = .returned (.int .i64 0) ∧ Tb B (fun k => (S k ∧ k < wr.heap.size) ∨ wr.heap.size ≤ k) tb (T.less i) (n + 1) w1 ∧ Off (fun k => S k ∧ k < wr.heap.size) wr w1 := by
  refine (free_any (i : Nat) wr h.cut.t hn h.tab).mono fun e w1 hP => ?_
  rcases hP with ⟨p1, p2, p3, p4⟩ | ⟨p1, -⟩
  · rw [Int.toNat_natCast] at p3
    exact ⟨p2, p3, p4⟩
  · rw [live_has hl] at p1; cases p1
theorem PlayR.free2 (h : PlayR w0 B tb rb kv S U T n wr) (hn : n ≤ 1000000) {i : Nat} (hl : T.live i) {w1 : World} (ho : Off (fun k => S k ∧ k < wr.heap.size) wr w1) :
    Calls Tryd.prog 17 #[.pointer (some ⟨rb, 0, none⟩), .int .i64 (i : Nat)] w1 fun e w2 => e = .returned (.tuple #[]) ∧ RefR B (fun k => (U k ∧ k < wr.heap.size) ∨ w1.heap.size ≤ k) rb kv (T.less i) w2 ∧ Off (fun k => U k ∧ k < wr.heap.size) w1 w2 :=
  rfree7 w1 (h.ref ho) hl h.t.ok h.t.leT hn
/-- Hold. -/
theorem PlayR.hold1 (h : PlayR w0 B tb rb kv S U T n wr) (hn : n ≤ 1000000) {i : Nat} (hl : T.live i) :
    Calls Tryd.prog 18 #[.pointer (some ⟨tb, 0, none⟩), .int .i64 (i : Nat)] wr fun e w1 => e = .returned (.int .i64 0) ∧ Tb B (fun k => (S k ∧ k < wr.heap.size) ∨ wr.heap.size ≤ k) tb (T.bump i) (n + 1) w1 ∧ Off (fun k => S k ∧ k < wr.heap.size) wr w1 := by
  have hB := h.t.hB
  refine (hold_any (i : Nat) wr h.cut.t hn).mono fun e w1 hP => ?_
  rcases hP with ⟨p1, p2, p3, p4⟩ | ⟨p1, -⟩
  · rw [Int.toNat_natCast] at p3
    exact ⟨p2, p3.mono (fun k hk => .inl hk) (fun k hk => by rcases hk with e | e; exact h.t.sB k e.1; omega), p4⟩
  · rw [live_has hl] at p1; cases p1
theorem PlayR.hold2 (h : PlayR w0 B tb rb kv S U T n wr) (hn : n ≤ 1000000) {i : Nat} (hl : T.live i) {w1 : World} (ho : Off (fun k => S k ∧ k < wr.heap.size) wr w1) :
    Calls Tryd.prog 19 #[.pointer (some ⟨rb, 0, none⟩), .int .i64 (i : Nat)] w1 fun e w2 => e = .returned (.tuple #[]) ∧ RefR B (fun k => (U k ∧ k < wr.heap.size) ∨ w1.heap.size ≤ k) rb kv (T.bump i) w2 ∧ Off (fun k => U k ∧ k < wr.heap.size) w1 w2 := by
  have hB := h.t.hB
  have hz := ho.size
  refine (rhold7 w1 (h.ref ho) hl h.t.ok h.t.leT hn).mono fun e w2 ⟨p1, p2, p3⟩ => ?_
  exact ⟨p1, p2.mono (fun k hk => .inl hk) (fun k hk => by rcases hk with e | e; exact h.r.sB k e.1; omega), p3⟩
/-- Neither, of an id that is not. -/
theorem PlayR.free0 (h : PlayR w0 B tb rb kv S U T n wr) (hn : n ≤ 1000000) {id : Int} (hl : T.has id = false) :
    Calls Tryd.prog 16 #[.pointer (some ⟨tb, 0, none⟩), .int .i64 id] wr fun e w1 => e = .returned (.int .i64 5) ∧ w1 = wr := by
  refine (free_any id wr h.t hn h.tab).mono fun e w1 hP => ?_
  rcases hP with ⟨p1, -⟩ | ⟨-, p2, p3⟩
  · rw [hl] at p1; cases p1
  · exact ⟨p2, p3⟩
theorem PlayR.hold0 (h : PlayR w0 B tb rb kv S U T n wr) (hn : n ≤ 1000000) {id : Int} (hl : T.has id = false) :
    Calls Tryd.prog 18 #[.pointer (some ⟨tb, 0, none⟩), .int .i64 id] wr fun e w1 => e = .returned (.int .i64 5) ∧ w1 = wr := by
  refine (hold_any id wr h.t hn).mono fun e w1 hP => ?_
  rcases hP with ⟨p1, -⟩ | ⟨-, p2, p3⟩
  · rw [hl] at p1; cases p1
  · exact ⟨p2, p3⟩
end
end Go.Proofs.YtiobcifpebehnaaDoor

/- J15 -/
/- J15: both tables, just made -/
namespace Go.Proofs.YtiobcifpebehnaaDoor
open Go.RowKit
set_option linter.unusedVariables false

/-- The schema's map is not the block below. -/
theorem Tb.lower {B tb : Nat} {S : Nat → Prop} {T : TabS} {n : Nat} {w : World} (h : Tb (B + 1) S tb T n w) {c : Array Value} {t : TypeId} {f : Nat × Nat} (hc : w.heap[B]? = some (.cells c t f)) : Tb B S tb T n w := by
  obtain ⟨st, mb, m, sv, fv, hs, D, h⟩ := h
  refine ⟨st, mb, m, sv, fv, hs, D, { h with hm := ?_, sB := fun k hk => by have := h.sB k hk; omega, hB := by have := h.hB; omega }⟩
  rcases h.hm with h0 | ⟨sb, h1, h2, h3⟩
  · exact .inl h0
  · refine .inr ⟨sb, h1, ?_, h3⟩
    by_cases e : sb = B
    · exfalso
      subst e
      obtain ⟨es, clock, q1, -⟩ := h3
      rw [q1] at hc
      cases hc
    · omega
theorem ref_first {B rb : Nat} {kv : Value} {ks : List Key} {w : World} (hst : w.heap[rb]? = some (.cells #[kv, .slice none 0 0, .slice none 0 0, .slice none 0 0, .int .i64 0] 36 (0, 0))) (hB : B ≤ rb) : RefR B (fun k => k = rb) rb kv (newT ks) w :=
  ⟨.slice none 0 0, .slice none 0 0, .slice none 0 0, [], [], [], 0, ⟨hst, ⟨rfl, .inl ⟨rfl, rfl⟩⟩, ⟨rfl, .inl ⟨rfl, rfl⟩⟩, ⟨rfl, .inl ⟨rfl, rfl⟩⟩, fun i x hx => by simp at hx, fun g hg => by simp [Value.ownBlock] at hg, rfl,
    fun g hg => by simp [Value.ownBlock] at hg, fun g hg => by simp [Value.ownBlock] at hg, fun g hg => by simp [Value.ownBlock] at hg, fun i x hx => by simp at hx, fun k hk => by have e : k = rb := hk; omega, by have := lt_of_heap hst; omega⟩,
    ⟨rfl, rfl, fun i x hx => by simp at hx, rfl, rfl⟩⟩
section
variable {w0 : World} {B tb rb : Nat} {kv : Value} {ks : List Key} {w2 w3 : World}
/-- The reference's table behind the other one. -/
theorem PlayR.first (h : HoldR w0 B tb (newT ks) 0 w2) (hb : Below w2.heap.size w2 w3) (hrb : w2.heap.size ≤ rb) (hst : w3.heap[rb]? = some (.cells #[kv, .slice none 0 0, .slice none 0 0, .slice none 0 0, .int .i64 0] 36 (0, 0))) :
    PlayR w0 B tb rb kv (fun k => B ≤ k ∧ k < w2.heap.size) (fun k => k = rb) (newT ks) 0 w3 :=
  ⟨h.t.cut.below hb, ref_first hst (Nat.le_trans h.t.hB hrb), h.tab.on (hb.mono h.t.hB), below_add h.bel hb h.bel.size, fun k h1 h2 => by have e : k = rb := h2; have := h1.2; omega⟩
/-- Ahead of it. -/
theorem PlayR.first2 (h : HoldR w0 (rb + 1) tb (newT ks) 0 w2) (ht : Tab w0.heap.size w0) (hw : w0.heap.size ≤ rb) (hst : w2.heap[rb]? = some (.cells #[kv, .slice none 0 0, .slice none 0 0, .slice none 0 0, .int .i64 0] 36 (0, 0))) :
    PlayR w0 rb tb rb kv (fun k => rb + 1 ≤ k ∧ k < w2.heap.size) (fun k => k = rb) (newT ks) 0 w2 :=
  ⟨h.t.cut.lower hst, ref_first hst (Nat.le_refl _), (ht.on h.bel).mono hw, h.bel, fun k h1 h2 => by have e : k = rb := h2; have := h1.1; omega⟩
end
/-- A call of the script, as the law's own variable has it. -/
def OpAt (xb : Nat) (kd id : Int) (v : Value) (W : World) : Prop := W.heap[xb]? = some (.cells #[.int .i64 kd, .int .i64 id, v] 39 (0, 0))
section
variable {xb : Nat} {kd id : Int} {v : Value} {W W' : World}
theorem OpAt.cells (h : OpAt xb kd id v W) : W.cell? ⟨xb, 0, none⟩ = some (.int .i64 kd) ∧ W.cell? ⟨xb, 1, none⟩ = some (.int .i64 id) ∧ W.cell? ⟨xb, 2, none⟩ = some v := by
  refine ⟨?_, ?_, ?_⟩
  · rw [cell_of_row W _ 0 _ _ _ h]; rfl
  · rw [cell_of_row W _ 1 _ _ _ h]; rfl
  · rw [cell_of_row W _ 2 _ _ _ h]; rfl
theorem OpAt.lt (h : OpAt xb kd id v W) : xb < W.heap.size := lt_of_heap h
theorem OpAt.below (h : OpAt xb kd id v W) (hb : Below W.heap.size W W') : OpAt xb kd id v W' := (hb.block _ h.lt).trans h
theorem OpAt.off (h : OpAt xb kd id v W) {S : Nat → Prop} (ho : Off S W W') (hS : ¬ S xb) : OpAt xb kd id v W' := (ho.block _ h.lt hS).trans h
end
/-- The law's own copy of a set, whose keys are written over; neither table has it. -/
def InRow (B : Nat) (a : Option Addr) (l cap xb : Nat) (S U : Nat → Prop) (W : World) : Prop := 0 < l → ∃ ub, a = some ⟨ub, 0, none⟩ ∧ l ≤ cap ∧ KeyRow ub l W ∧ B ≤ ub ∧ ¬ S ub ∧ ¬ U ub ∧ ub ≠ xb
theorem KeyRow.off {ub l : Nat} {W W' : World} (h : KeyRow ub l W) {S : Nat → Prop} (ho : Off S W W') (hS : ¬ S ub) : KeyRow ub l W' := by
  obtain ⟨cur, h1, h2⟩ := h.obj
  exact ⟨cur, (ho.block _ (lt_of_heap h1) hS).trans h1, h2⟩
section
variable {w0 : World} {B tb rb : Nat} {kv : Value} {S U : Nat → Prop} {T : TabS} {n : Nat} {wr : World}
/-- All of it behind one write. -/
theorem in_write {l cap xb ub : Nat} {kd id : Int} {v : Value} (h : PlayR w0 B tb rb kv S U T n wr) (hw : w0.heap.size ≤ B) (hx : OpAt xb kd id v wr) (hK : KeyRow ub l wr) (hcap : l ≤ cap) (hB : B ≤ ub) (hS : ¬ S ub) (hU : ¬ U ub) (hne : ub ≠ xb) (i : Nat) (q : Int) :
    InRow B (some ⟨ub, 0, none⟩) l cap xb S U (wr.setCell ⟨ub, i * 5, none⟩ (.int .i64 q)) ∧ PlayR w0 B tb rb kv S U T n (wr.setCell ⟨ub, i * 5, none⟩ (.int .i64 q)) ∧ OpAt xb kd id v (wr.setCell ⟨ub, i * 5, none⟩ (.int .i64 q)) := by
  have hG := grown_set (w := wr) (g := ub) (o := i * 5) (.int .i64 q)
  have ho : Off (fun k => k = ub) wr (wr.setCell ⟨ub, i * 5, none⟩ (.int .i64 q)) := Off.of_grown hG (fun g hg => by cases hg; rfl)
  refine ⟨fun _ => ⟨ub, rfl, hcap, hK.set i q, hB, hS, hU, hne⟩, h.off hw ho (fun k hk => ?_), hx.off ho (fun e => hne e.symm)⟩
  have e : k = ub := hk
  subst e
  exact ⟨hB, hS, hU⟩
/-- What the law's own copy is behind both tables' Add. -/
theorem in_made {X : List Att} {a : Option Addr} {cap xb : Nat} {S' U' : Nat → Prop} {W1 w3 w4 w5 : World} (hB : B ≤ W1.heap.size) (ho : w3.ownsRow W1.heap.size 47 5 (.slice a X.length cap) X.length (fl attC X)) (hx : xb < W1.heap.size)
    (hSU : ∀ k, S k ∨ U k → k < W1.heap.size) (h4 : Off (fun k => S k ∧ k < w3.heap.size) w3 w4) (h5 : Off (fun k => U k ∧ k < w3.heap.size) w4 w5) (hN : ∀ k, k < w3.heap.size → S' k ∨ U' k → S k ∨ U k) : InRow B a X.length cap xb S' U' w5 := by
  intro h0
  obtain ⟨ub, cap', e, hb, hcap, hK⟩ := KeyRow.of_own ho h0
  injection e with e1 _ e2
  subst e1 e2
  have hlt : ub < w3.heap.size := own_lt7 ho rfl
  have hn : ¬ (S ub ∨ U ub) := fun h => by have := hSU ub h; omega
  refine ⟨ub, rfl, hcap, (hK.off h4 (fun h => hn (.inl h.1))).off h5 (fun h => hn (.inr h.1)), by omega, fun h => hn (hN ub hlt (.inl h)), fun h => hn (hN ub hlt (.inr h)), by omega⟩
end
end Go.Proofs.YtiobcifpebehnaaDoor

/- J16 -/
/- J16: InternPlays' walk -/
namespace Go.Proofs.YtiobcifpebehnaaDoor
open Go.RowKit
set_option linter.unusedVariables false

set_option maxRecDepth 100000 in
set_option maxHeartbeats 4000000 in
theorem plays_walk (v0 v1 : Value) (ks : List Key) (ls : List OpL) (w : World) (h0 : Krow w v0 ks) (hkW : ∀ k ∈ ks, KeyW k) (h2 : Orow w v1 ls) (hls : ∀ o ∈ ls, OpW o) (hz : UpB ls) (ht : Tab w.heap.size w) :
    Calls Tryd.prog 3 #[v0, v1] w fun e w' => e = .returned (.bool true) ∧ Below w.heap.size w w' := by
  have HN := Lib.hid (new_any v0 ks w h0 hkW)
  have HT := Lib.hid ht
  have HKN := Lib.hid (fun (w' : World) (hb : Below w.heap.size w w') => known7_any w' (fun w2 hb2 => ht w2 (hb.trans (hb2.mono hb.size))))
  have HMY := Lib.hid (fun (w' : World) (hb : Below w.heap.size w w') => rmay_keys v0 ks w' (h0.below hb (Nat.le_refl _)))
  have hl2 := h2.len
  have HK0 := Lib.hid h0
  obtain ⟨va, vc, rfl⟩ := h0.shape
  obtain ⟨la, lc, rfl⟩ := h2.shape
  have H2 := Lib.hid h2
  have HLS := Lib.hid hls
  have HZ := Lib.hid hz
  clear h0 h2 hls ht hkW hz
  by_cases hlen : ls.length ≤ 100
  · have g1 : decide (100 < (ls.length : Int)) = false := by rw [decide_eq_false_iff_not]; omega
    go_enter Tryd.func3, Tryd.ntmps3
    go_wp2_with (go_at_call 9; refine HN.out.mono ?_; rintro e w1 ⟨hb1, ⟨hmk, s, rfl, hs⟩ | ⟨hmk, rfl⟩⟩; all_goals refine Hid.out ?_)
    · have HS := Lib.hid hs
      have B1 := Lib.hid hb1
      clear hs hb1 HN
      refine Lib.hid ?_
      go_wp2_with (go_at_call 12; refine (begin_any ks w w1 _ HS.out B1.out HT.out).mono ?_; rintro e w2 ⟨tb, rfl, hR2, hsz⟩; refine Hid.out ?_)
      have hbA := (Below.refl w2.heap.size w2).alloc (Nat.le_refl _) (.cells #[.slice va ks.length vc, .slice none 0 0, .slice none 0 0, .slice none 0 0, .int .i64 0] 36)
      have hP0 := PlayR.first hR2 hbA (Nat.le_refl _) (heap_alloc_new w2 _)
      have HP0 := Lib.hid hP0
      have HW := Lib.hid hsz
      clear hP0 hbA hR2 hsz HS B1
      refine Lib.hid ?_
      go_wp2
      obtain ⟨S0, U0, hP0⟩ : ∃ S U, PlayR w w1.heap.size tb w2.heap.size (.slice va ks.length vc) S U (newT ks) 0 (w2.alloc (.cells #[.slice va ks.length vc, .slice none 0 0, .slice none 0 0, .slice none 0 0, .int .i64 0] 36)) := ⟨_, _, HP0.out⟩
      generalize w2.alloc (.cells #[.slice va ks.length vc, .slice none 0 0, .slice none 0 0, .slice none 0 0, .int .i64 0] 36) = W0 at *
      generalize w2.heap.size = rb at *
      generalize w1.heap.size = B at *
      have HP1 := Lib.hid hP0
      clear hP0 HP0
      go_loopw [47] (fun s47 wr => ∃ (k : Nat) (T : TabS) (S U : Nat → Prop), k ≤ ls.length ∧ s47 = .int .i64 k ∧ T.ks = ks ∧ PlayR w B tb rb (.slice va ks.length vc) S U T k wr) (fun s47 _ => ls.length - (intOf s47).toNat)
      case atStart => exact ⟨0, _, _, _, Nat.zero_le _, rfl, rfl, HP1.out⟩
      case round =>
        obtain ⟨k, T, S, U, hk, rfl, hks, hP⟩ := hrel
        have HKS := Lib.hid hks
        clear hks
        by_cases hlt : k < ls.length
        · obtain ⟨lb, lo, rfl, -, hcap, hmx, hlb, hat⟩ := H2.out.opn (by omega)
          obtain ⟨ya, yc, cy0, cy1, cy2, hy⟩ := hat k hlt
          have c0 := (hP.bel.cell (p := ⟨lb, lo + k * 3, none⟩) hlb).trans cy0
          have c1 := (hP.bel.cell (p := ⟨lb, lo + k * 3 + 1, none⟩) hlb).trans cy1
          have c2 := (hP.bel.cell (p := ⟨lb, lo + k * 3 + 2, none⟩) hlb).trans cy2
          have HY := Lib.hid hy
          have HYW := Lib.hid (HLS.out ls[k] (List.getElem_mem hlt)).x
          have HYS := Lib.hid (HZ.out ls[k] (List.getElem_mem hlt))
          obtain ⟨S, U, hP, hSU⟩ : ∃ S U, PlayR w B tb rb (.slice va ks.length vc) S U T k wr ∧ ∀ q, S q ∨ U q → q < wr.heap.size := ⟨_, _, hP.cut, fun q hq => by rcases hq with e | e <;> exact e.2⟩
          have HP := Lib.hid hP
          have HSU := Lib.hid hSU
          clear hat hy cy0 cy1 cy2 hP hSU
          generalize ls[k] = O at *
          obtain ⟨kd, id, X⟩ := O
          simp only at c0 c1 c2 HY HYW HYS
          go_wp2_with fail
          have hbx := (Below.refl wr.heap.size wr).alloc (Nat.le_refl _) (.cells #[.int .i64 kd, .int .i64 id, .slice ya X.length yc] 39)
          have HX1 := Lib.hid (show OpAt wr.heap.size kd id (.slice ya X.length yc) (wr.alloc (.cells #[.int .i64 kd, .int .i64 id, .slice ya X.length yc] 39)) from heap_alloc_new wr _)
          have HP1 := Lib.hid (HP.out.below hbx)
          have HSU1 := Lib.hid (show ∀ q, S q ∨ U q → q < wr.heap.size from HSU.out)
          generalize wr.alloc (.cells #[.int .i64 kd, .int .i64 id, .slice ya X.length yc] 39) = W1 at *
          generalize wr.heap.size = xb at *
          clear hbx c0 c1 c2 HP HSU
          have HHS := Lib.hid (rhas7 id W1 HP1.out.r HP1.out.t.leT (by omega))
          obtain ⟨x0, x1, x2⟩ := HX1.out.cells
          cases hh : T.has id with
          | true =>
            rw [hh] at HHS
            by_cases hk1 : kd = 1
            · subst hk1
              by_cases hXl : X.length ≤ 70
              · have g3 : decide (70 < (X.length : Int)) = false := by rw [decide_eq_false_iff_not]; omega
                have hbA := (Below.refl W1.heap.size W1).alloc (Nat.le_refl _) (.cells #[] 47)
                have y2 : (W1.alloc (.cells #[] 47)).cell? ⟨xb, 2, none⟩ = some (.slice ya X.length yc) := (hbA.cell (World.block_lt_of_cell? _ _ x2)).trans x2
                have HYR := Lib.hid (show Arow (W1.alloc (.cells #[] 47)) (.slice ya X.length yc) X from HY.out.below (below_add HP1.out.bel hbA HP1.out.bel.size) (Nat.le_refl _))
                clear hbA
                obtain ⟨i0, hi, hz0, hz1, hz2⟩ := info_att5
                go_wp2_with (first
                  | (go_at_call 13; refine HHS.out.mono ?_; rintro e wx ⟨rfl, hw⟩; have hw := hw.symm; subst hw)
                  | (at_builtin; refine wpList_append_row (C := attC) rfl (.tmp 64) (.tmp 66) 37 rfl W1.heap.size 47 i0 (av noAtt) 48 Tryd.underlying37 hi hz0 hz1 hz2 rfl _ 0 [] rfl (own_fresh7 W1 _ 5) _ X rfl HYR.out (by unfold maxLen; omega) (by omega) (by simp) ?_; intro v3 w3 hown3 hgrow3; refine Hid.out ?_))
                have hb3 := fresh_grown hgrow3
                obtain ⟨a3, c3, rfl⟩ : ∃ a c, v3 = .slice a X.length c := by
                  have := (Row.of_owns (C := attC) (xs := X) (by simpa using hown3)).1.shape
                  exact this
                have hown4 : w3.ownsRow W1.heap.size 47 5 (.slice a3 X.length c3) X.length (fl attC X) := by have e := hown3; simp only [Nat.zero_add, List.nil_append] at e; exact e
                have hP3 := HP1.out.below hb3
                have hO3 : Outs (fun q => S q ∧ q < w3.heap.size) (.slice a3 X.length c3) := fun b o l c e hS => by
                  cases e
                  have h1 := own_base hown4 (k := b) rfl
                  have h2 := HSU1.out b (.inl hS.1)
                  have h3 := HX1.out.lt
                  omega
                have HA1 := Lib.hid (hP3.add1 (by omega) (Row.of_owns (C := attC) hown4).1 HYW.out hO3)
                have HP3 := Lib.hid hP3
                have HO3 := Lib.hid hown4
                have HX3 := Lib.hid (HX1.out.below hb3)
                have HZ3 := Lib.hid (show xb < W1.heap.size ∧ B ≤ W1.heap.size from ⟨HX1.out.lt, HP1.out.t.hB⟩)
                obtain ⟨z0, z1, z2⟩ := HX3.out.cells
                clear hP3 hO3 hown3 hown4 hb3 hgrow3 HX1 HP1 HHS HYR x0 x1 x2 y2
                refine Lib.hid ?_
                go_wp2_with (go_at_call 14; refine HA1.out.mono ?_; rintro e w4 ⟨rfl, ht4, ho4⟩; refine Hid.out ?_)
                have hX4 := HX3.out.off ho4 (fun hS => by have := HSU1.out _ (.inl hS.1); omega)
                have HA2 := Lib.hid (HP3.out.add2 HW.out (by omega) ho4 HKS.out HK0.out HY.out HYW.out HYS.out (by omega))
                have HT4 := Lib.hid ht4
                have HO4 := Lib.hid ho4
                have HX4 := Lib.hid hX4
                clear z0 z1 z2 ht4 ho4 hX4 HX3 HA1
                obtain ⟨z0, z1, z2⟩ := HX4.out.cells
                generalize aId T X = ai at *
                generalize may5 T.ks X = am at *
                refine Lib.hid ?_
                go_wp2_with (go_at_call 15; refine HA2.out.mono ?_; rintro e w5 ⟨rfl, hr5, ho5⟩; refine Hid.out ?_)
                have hX5 := HX4.out.off ho5 (fun hU => by have := HSU1.out _ (.inr hU.1); omega)
                obtain ⟨S', U', hP5, hN5⟩ := HP3.out.step2 HW.out HT4.out HO4.out hr5 ho5
                have hI5 := in_made (S' := S') (U' := U') HZ3.out.2 HO3.out HZ3.out.1 (fun q hq => Nat.lt_trans (HSU1.out q hq) HZ3.out.1) HO4.out ho5 hN5
                have H5 := Lib.hid (show InRow B a3 X.length c3 xb S' U' w5 ∧ PlayR w B tb rb (.slice va ks.length vc) S' U' (aT T X) (k + 1) w5 ∧ OpAt xb 1 id (.slice ya X.length yc) w5 from ⟨hI5, hP5, hX5⟩)
                have hXl2 : X.length ≤ 9223372036854775807 := by omega
                clear hX5 hP5 hN5 hI5 hr5 ho5 HA2 HT4 HO4 HX4 HP3 HO3 HZ3 z0 z1 z2 hi hz0 hz1 hz2
                refine Lib.hid ?_
                go_wp2
                go_loopw [91] (fun s91 wr => ∃ i : Nat, i ≤ X.length ∧ s91 = .int .i64 i ∧ InRow B a3 X.length c3 xb S' U' wr ∧ PlayR w B tb rb (.slice va ks.length vc) S' U' (aT T X) (k + 1) wr ∧ OpAt xb 1 id (.slice ya X.length yc) wr) (fun s91 _ => X.length - (intOf s91).toNat)
                case atStart => exact ⟨0, Nat.zero_le _, rfl, H5.out⟩
                case round =>
                  obtain ⟨i, hi, rfl, hI, hP, hX⟩ := hrel
                  by_cases hlti : i < X.length
                  · obtain ⟨ub, rfl, hcap3, hK, hBu, hnS, hnU, hne⟩ := hI (by omega)
                    obtain ⟨⟨kq, hc⟩, hf⟩ := hK.at hlti
                    have i0 : (0 : Int) ≤ (i : Int) := by omega
                    have i1 : (i : Int) < (X.length : Int) := by omega
                    have R9 := Lib.hid (in_write hP HW.out hX hK hcap3 hBu hnS hnU hne i (wrap64 (kq + 1)))
                    clear hI hP hX hK hBu hnS hnU hne
                    go_wp2
                    go_roundw
                    case rel => exact ⟨i + 1, by omega, by go_num, R9.out⟩
                    case measure => simp [intOf]; omega
                  · obtain rfl : i = X.length := by omega
                    clear hI
                    have H6 := Lib.hid (show PlayR w B tb rb (.slice va ks.length vc) S' U' (aT T X) (k + 1) wr ∧ OpAt xb 1 id (.slice ya X.length yc) wr from ⟨hP, hX⟩)
                    clear hP hX
                    have HX9 := Lib.hid (H6.out.2)
                    have HR9 := Lib.hid (H6.out.1)
                    obtain ⟨x0, x1, x2⟩ := HX9.out.cells
                    have HLK := Lib.hid (looked_any id HR9.out (by omega))
                    clear H5 H6
                    go_wp2_with (go_at_call 20; refine HLK.out.mono ?_; rintro e w9 ⟨rfl, hb9⟩; refine Hid.out ?_)
                    have HE := Lib.hid (HR9.out.below hb9)
                    clear HX9 HR9 x0 x1 x2 HLK hb9
                    refine Lib.hid ?_
                    go_wp2
                    go_roundw
                    case rel => exact ⟨k + 1, aT T X, _, _, by omega, by go_num, (aT_ks T X).trans HKS.out, HE.out⟩
                    case measure => simp [intOf]; omega
              · have g3 : decide (70 < (X.length : Int)) = true := by rw [decide_eq_true_iff]; omega
                have HE := Lib.hid (HP1.out.le (Nat.le_succ k))
                clear HP1
                go_wp2_with (go_at_call 13; refine HHS.out.mono ?_; rintro e wx ⟨rfl, hw⟩; have hw := hw.symm; subst hw)
                go_roundw
                case rel => exact ⟨k + 1, T, _, _, by omega, by go_num, HKS.out, HE.out⟩
                case measure => simp [intOf]; omega
            · have e1 : (kd == 1) = false := by simpa using hk1
              by_cases hk2 : kd = 2
              · subst hk2
                obtain ⟨i, rfl, hlv⟩ := has_live hh
                have HF1 := Lib.hid (HP1.out.free1 (by omega) hlv)
                have HLV := Lib.hid hlv
                clear hlv hh
                go_wp2_with (first
                  | (go_at_call 13; refine HHS.out.mono ?_; rintro e wx ⟨rfl, hw⟩; have hw := hw.symm; subst hw)
                  | (go_at_call 16; refine HF1.out.mono ?_; rintro e w4 ⟨rfl, ht4, ho4⟩; refine Hid.out ?_))
                have hX4 := HX1.out.off ho4 (fun hS => by have := HSU1.out _ (.inl hS.1); omega)
                have HF2 := Lib.hid (HP1.out.free2 (by omega) HLV.out ho4)
                have HT4 := Lib.hid ht4
                have HO4 := Lib.hid ho4
                have HX4 := Lib.hid hX4
                clear x0 x1 x2 ht4 ho4 hX4 HX1 HF1 HHS
                obtain ⟨x0, x1, x2⟩ := HX4.out.cells
                refine Lib.hid ?_
                go_wp2_with (go_at_call 17; refine HF2.out.mono ?_; rintro e w5 ⟨rfl, hr5, ho5⟩; refine Hid.out ?_)
                have hX5 := HX4.out.off ho5 (fun hU => by have := HSU1.out _ (.inr hU.1); omega)
                obtain ⟨S', U', hP5, -⟩ := HP1.out.step2 HW.out HT4.out HO4.out hr5 ho5
                have H6 := Lib.hid (show PlayR w B tb rb (.slice va ks.length vc) S' U' (T.less i) (k + 1) w5 ∧ OpAt xb 2 (i : Nat) (.slice ya X.length yc) w5 from ⟨hP5, hX5⟩)
                clear hX5 hP5 hr5 ho5 HF2 HT4 HO4 HX4 HP1 x0 x1 x2
                have HX9 := Lib.hid (H6.out.2)
                have HR9 := Lib.hid (H6.out.1)
                obtain ⟨x0, x1, x2⟩ := HX9.out.cells
                have HLK := Lib.hid (looked_any (i : Nat) HR9.out (by omega))
                clear H6
                refine Lib.hid ?_
                go_wp2_with (go_at_call 20; refine HLK.out.mono ?_; rintro e w9 ⟨rfl, hb9⟩; refine Hid.out ?_)
                have HE := Lib.hid (HR9.out.below hb9)
                clear HX9 HR9 x0 x1 x2 HLK hb9
                refine Lib.hid ?_
                go_wp2
                go_roundw
                case rel => exact ⟨k + 1, T.less i, _, _, by omega, by go_num, (ks_less T i).trans HKS.out, HE.out⟩
                case measure => simp [intOf]; omega
              · have e2 : (kd == 2) = false := by simpa using hk2
                by_cases hk3 : kd = 3
                · subst hk3
                  obtain ⟨i, rfl, hlv⟩ := has_live hh
                  have HF1 := Lib.hid (HP1.out.hold1 (by omega) hlv)
                  have HLV := Lib.hid hlv
                  clear hlv hh
                  go_wp2_with (first
                    | (go_at_call 13; refine HHS.out.mono ?_; rintro e wx ⟨rfl, hw⟩; have hw := hw.symm; subst hw)
                    | (go_at_call 18; refine HF1.out.mono ?_; rintro e w4 ⟨rfl, ht4, ho4⟩; refine Hid.out ?_))
                  have hX4 := HX1.out.off ho4 (fun hS => by have := HSU1.out _ (.inl hS.1); omega)
                  have HF2 := Lib.hid (HP1.out.hold2 (by omega) HLV.out ho4)
                  have HT4 := Lib.hid ht4
                  have HO4 := Lib.hid ho4
                  have HX4 := Lib.hid hX4
                  clear x0 x1 x2 ht4 ho4 hX4 HX1 HF1 HHS
                  obtain ⟨x0, x1, x2⟩ := HX4.out.cells
                  refine Lib.hid ?_
                  go_wp2_with (go_at_call 19; refine HF2.out.mono ?_; rintro e w5 ⟨rfl, hr5, ho5⟩; refine Hid.out ?_)
                  have hX5 := HX4.out.off ho5 (fun hU => by have := HSU1.out _ (.inr hU.1); omega)
                  obtain ⟨S', U', hP5, -⟩ := HP1.out.step2 HW.out HT4.out HO4.out hr5 ho5
                  have H6 := Lib.hid (show PlayR w B tb rb (.slice va ks.length vc) S' U' (T.bump i) (k + 1) w5 ∧ OpAt xb 3 (i : Nat) (.slice ya X.length yc) w5 from ⟨hP5, hX5⟩)
                  clear hX5 hP5 hr5 ho5 HF2 HT4 HO4 HX4 HP1 x0 x1 x2
                  have HX9 := Lib.hid (H6.out.2)
                  have HR9 := Lib.hid (H6.out.1)
                  obtain ⟨x0, x1, x2⟩ := HX9.out.cells
                  have HLK := Lib.hid (looked_any (i : Nat) HR9.out (by omega))
                  clear H6
                  refine Lib.hid ?_
                  go_wp2_with (go_at_call 20; refine HLK.out.mono ?_; rintro e w9 ⟨rfl, hb9⟩; refine Hid.out ?_)
                  have HE := Lib.hid (HR9.out.below hb9)
                  clear HX9 HR9 x0 x1 x2 HLK hb9
                  refine Lib.hid ?_
                  go_wp2
                  go_roundw
                  case rel => exact ⟨k + 1, T.bump i, _, _, by omega, by go_num, HKS.out, HE.out⟩
                  case measure => simp [intOf]; omega
                · have e3 : (kd == 3) = false := by simpa using hk3
                  have HX9 := Lib.hid (HX1.out)
                  have HR9 := Lib.hid (HP1.out.le (Nat.le_succ k))
                  obtain ⟨x0, x1, x2⟩ := HX9.out.cells
                  have HLK := Lib.hid (looked_any id HR9.out (by omega))
                  clear HP1
                  go_wp2_with (first | (go_at_call 13; refine HHS.out.mono ?_; rintro e wx ⟨rfl, hw⟩; have hw := hw.symm; subst hw) | (go_at_call 20; refine HLK.out.mono ?_; rintro e w9 ⟨rfl, hb9⟩; refine Hid.out ?_))
                  have HE := Lib.hid (HR9.out.below hb9)
                  clear HX9 HR9 x0 x1 x2 HLK hb9
                  refine Lib.hid ?_
                  go_wp2
                  go_roundw
                  case rel => exact ⟨k + 1, T, _, _, by omega, by go_num, HKS.out, HE.out⟩
                  case measure => simp [intOf]; omega
          | false =>
            rw [hh] at HHS
            by_cases hk1 : kd = 1
            · subst hk1
              by_cases hXl : X.length ≤ 70
              · have g3 : decide (70 < (X.length : Int)) = false := by rw [decide_eq_false_iff_not]; omega
                have hbA := (Below.refl W1.heap.size W1).alloc (Nat.le_refl _) (.cells #[] 47)
                have y2 : (W1.alloc (.cells #[] 47)).cell? ⟨xb, 2, none⟩ = some (.slice ya X.length yc) := (hbA.cell (World.block_lt_of_cell? _ _ x2)).trans x2
                have HYR := Lib.hid (show Arow (W1.alloc (.cells #[] 47)) (.slice ya X.length yc) X from HY.out.below (below_add HP1.out.bel hbA HP1.out.bel.size) (Nat.le_refl _))
                clear hbA
                obtain ⟨i0, hi, hz0, hz1, hz2⟩ := info_att5
                go_wp2_with (first
                  | (go_at_call 13; refine HHS.out.mono ?_; rintro e wx ⟨rfl, hw⟩; have hw := hw.symm; subst hw)
                  | (at_builtin; refine wpList_append_row (C := attC) rfl (.tmp 64) (.tmp 66) 37 rfl W1.heap.size 47 i0 (av noAtt) 48 Tryd.underlying37 hi hz0 hz1 hz2 rfl _ 0 [] rfl (own_fresh7 W1 _ 5) _ X rfl HYR.out (by unfold maxLen; omega) (by omega) (by simp) ?_; intro v3 w3 hown3 hgrow3; refine Hid.out ?_))
                have hb3 := fresh_grown hgrow3
                obtain ⟨a3, c3, rfl⟩ : ∃ a c, v3 = .slice a X.length c := by
                  have := (Row.of_owns (C := attC) (xs := X) (by simpa using hown3)).1.shape
                  exact this
                have hown4 : w3.ownsRow W1.heap.size 47 5 (.slice a3 X.length c3) X.length (fl attC X) := by have e := hown3; simp only [Nat.zero_add, List.nil_append] at e; exact e
                have hP3 := HP1.out.below hb3
                have hO3 : Outs (fun q => S q ∧ q < w3.heap.size) (.slice a3 X.length c3) := fun b o l c e hS => by
                  cases e
                  have h1 := own_base hown4 (k := b) rfl
                  have h2 := HSU1.out b (.inl hS.1)
                  have h3 := HX1.out.lt
                  omega
                have HA1 := Lib.hid (hP3.add1 (by omega) (Row.of_owns (C := attC) hown4).1 HYW.out hO3)
                have HP3 := Lib.hid hP3
                have HO3 := Lib.hid hown4
                have HX3 := Lib.hid (HX1.out.below hb3)
                have HZ3 := Lib.hid (show xb < W1.heap.size ∧ B ≤ W1.heap.size from ⟨HX1.out.lt, HP1.out.t.hB⟩)
                obtain ⟨z0, z1, z2⟩ := HX3.out.cells
                clear hP3 hO3 hown3 hown4 hb3 hgrow3 HX1 HP1 HHS HYR x0 x1 x2 y2
                refine Lib.hid ?_
                go_wp2_with (go_at_call 14; refine HA1.out.mono ?_; rintro e w4 ⟨rfl, ht4, ho4⟩; refine Hid.out ?_)
                have hX4 := HX3.out.off ho4 (fun hS => by have := HSU1.out _ (.inl hS.1); omega)
                have HA2 := Lib.hid (HP3.out.add2 HW.out (by omega) ho4 HKS.out HK0.out HY.out HYW.out HYS.out (by omega))
                have HT4 := Lib.hid ht4
                have HO4 := Lib.hid ho4
                have HX4 := Lib.hid hX4
                clear z0 z1 z2 ht4 ho4 hX4 HX3 HA1
                obtain ⟨z0, z1, z2⟩ := HX4.out.cells
                generalize aId T X = ai at *
                generalize may5 T.ks X = am at *
                refine Lib.hid ?_
                go_wp2_with (go_at_call 15; refine HA2.out.mono ?_; rintro e w5 ⟨rfl, hr5, ho5⟩; refine Hid.out ?_)
                have hX5 := HX4.out.off ho5 (fun hU => by have := HSU1.out _ (.inr hU.1); omega)
                obtain ⟨S', U', hP5, hN5⟩ := HP3.out.step2 HW.out HT4.out HO4.out hr5 ho5
                have hI5 := in_made (S' := S') (U' := U') HZ3.out.2 HO3.out HZ3.out.1 (fun q hq => Nat.lt_trans (HSU1.out q hq) HZ3.out.1) HO4.out ho5 hN5
                have H5 := Lib.hid (show InRow B a3 X.length c3 xb S' U' w5 ∧ PlayR w B tb rb (.slice va ks.length vc) S' U' (aT T X) (k + 1) w5 ∧ OpAt xb 1 id (.slice ya X.length yc) w5 from ⟨hI5, hP5, hX5⟩)
                have hXl2 : X.length ≤ 9223372036854775807 := by omega
                clear hX5 hP5 hN5 hI5 hr5 ho5 HA2 HT4 HO4 HX4 HP3 HO3 HZ3 z0 z1 z2 hi hz0 hz1 hz2
                refine Lib.hid ?_
                go_wp2
                go_loopw [91] (fun s91 wr => ∃ i : Nat, i ≤ X.length ∧ s91 = .int .i64 i ∧ InRow B a3 X.length c3 xb S' U' wr ∧ PlayR w B tb rb (.slice va ks.length vc) S' U' (aT T X) (k + 1) wr ∧ OpAt xb 1 id (.slice ya X.length yc) wr) (fun s91 _ => X.length - (intOf s91).toNat)
                case atStart => exact ⟨0, Nat.zero_le _, rfl, H5.out⟩
                case round =>
                  obtain ⟨i, hi, rfl, hI, hP, hX⟩ := hrel
                  by_cases hlti : i < X.length
                  · obtain ⟨ub, rfl, hcap3, hK, hBu, hnS, hnU, hne⟩ := hI (by omega)
                    obtain ⟨⟨kq, hc⟩, hf⟩ := hK.at hlti
                    have i0 : (0 : Int) ≤ (i : Int) := by omega
                    have i1 : (i : Int) < (X.length : Int) := by omega
                    have R9 := Lib.hid (in_write hP HW.out hX hK hcap3 hBu hnS hnU hne i (wrap64 (kq + 1)))
                    clear hI hP hX hK hBu hnS hnU hne
                    go_wp2
                    go_roundw
                    case rel => exact ⟨i + 1, by omega, by go_num, R9.out⟩
                    case measure => simp [intOf]; omega
                  · obtain rfl : i = X.length := by omega
                    clear hI
                    have H6 := Lib.hid (show PlayR w B tb rb (.slice va ks.length vc) S' U' (aT T X) (k + 1) wr ∧ OpAt xb 1 id (.slice ya X.length yc) wr from ⟨hP, hX⟩)
                    clear hP hX
                    have HX9 := Lib.hid (H6.out.2)
                    have HR9 := Lib.hid (H6.out.1)
                    obtain ⟨x0, x1, x2⟩ := HX9.out.cells
                    have HLK := Lib.hid (looked_any id HR9.out (by omega))
                    clear H5 H6
                    go_wp2_with (go_at_call 20; refine HLK.out.mono ?_; rintro e w9 ⟨rfl, hb9⟩; refine Hid.out ?_)
                    have HE := Lib.hid (HR9.out.below hb9)
                    clear HX9 HR9 x0 x1 x2 HLK hb9
                    refine Lib.hid ?_
                    go_wp2
                    go_roundw
                    case rel => exact ⟨k + 1, aT T X, _, _, by omega, by go_num, (aT_ks T X).trans HKS.out, HE.out⟩
                    case measure => simp [intOf]; omega
              · have g3 : decide (70 < (X.length : Int)) = true := by rw [decide_eq_true_iff]; omega
                have HE := Lib.hid (HP1.out.le (Nat.le_succ k))
                clear HP1
                go_wp2_with (go_at_call 13; refine HHS.out.mono ?_; rintro e wx ⟨rfl, hw⟩; have hw := hw.symm; subst hw)
                go_roundw
                case rel => exact ⟨k + 1, T, _, _, by omega, by go_num, HKS.out, HE.out⟩
                case measure => simp [intOf]; omega
            · have e1 : (kd == 1) = false := by simpa using hk1
              by_cases hk2 : kd = 2
              · subst hk2
                have HF0 := Lib.hid (HP1.out.free0 (by omega) hh)
                clear hh
                go_wp2_with (first
                  | (go_at_call 13; refine HHS.out.mono ?_; rintro e wx ⟨rfl, hw⟩; have hw := hw.symm; subst hw)
                  | (go_at_call 16; refine HF0.out.mono ?_; rintro e w4 ⟨rfl, hw⟩; have hw := hw.symm; subst hw; refine Hid.out ?_))
                have HP2 := Lib.hid (HP1.out.le (Nat.le_succ k))
                clear HP1 HF0 HHS
                have HX9 := Lib.hid (HX1.out)
                have HR9 := Lib.hid (HP2.out)
                obtain ⟨x0, x1, x2⟩ := HX9.out.cells
                have HLK := Lib.hid (looked_any id HR9.out (by omega))
                clear HP2 HX1
                refine Lib.hid ?_
                go_wp2_with (go_at_call 20; refine HLK.out.mono ?_; rintro e w9 ⟨rfl, hb9⟩; refine Hid.out ?_)
                have HE := Lib.hid (HR9.out.below hb9)
                clear HX9 HR9 x0 x1 x2 HLK hb9
                refine Lib.hid ?_
                go_wp2
                go_roundw
                case rel => exact ⟨k + 1, T, _, _, by omega, by go_num, HKS.out, HE.out⟩
                case measure => simp [intOf]; omega
              · have e2 : (kd == 2) = false := by simpa using hk2
                by_cases hk3 : kd = 3
                · subst hk3
                  have HF0 := Lib.hid (HP1.out.hold0 (by omega) hh)
                  clear hh
                  go_wp2_with (first
                    | (go_at_call 13; refine HHS.out.mono ?_; rintro e wx ⟨rfl, hw⟩; have hw := hw.symm; subst hw)
                    | (go_at_call 18; refine HF0.out.mono ?_; rintro e w4 ⟨rfl, hw⟩; have hw := hw.symm; subst hw; refine Hid.out ?_))
                  have HP2 := Lib.hid (HP1.out.le (Nat.le_succ k))
                  clear HP1 HF0 HHS
                  have HX9 := Lib.hid (HX1.out)
                  have HR9 := Lib.hid (HP2.out)
                  obtain ⟨x0, x1, x2⟩ := HX9.out.cells
                  have HLK := Lib.hid (looked_any id HR9.out (by omega))
                  clear HP2 HX1
                  refine Lib.hid ?_
                  go_wp2_with (go_at_call 20; refine HLK.out.mono ?_; rintro e w9 ⟨rfl, hb9⟩; refine Hid.out ?_)
                  have HE := Lib.hid (HR9.out.below hb9)
                  clear HX9 HR9 x0 x1 x2 HLK hb9
                  refine Lib.hid ?_
                  go_wp2
                  go_roundw
                  case rel => exact ⟨k + 1, T, _, _, by omega, by go_num, HKS.out, HE.out⟩
                  case measure => simp [intOf]; omega
                · have e3 : (kd == 3) = false := by simpa using hk3
                  have HX9 := Lib.hid (HX1.out)
                  have HR9 := Lib.hid (HP1.out.le (Nat.le_succ k))
                  obtain ⟨x0, x1, x2⟩ := HX9.out.cells
                  have HLK := Lib.hid (looked_any id HR9.out (by omega))
                  clear HP1
                  go_wp2_with (first | (go_at_call 13; refine HHS.out.mono ?_; rintro e wx ⟨rfl, hw⟩; have hw := hw.symm; subst hw) | (go_at_call 20; refine HLK.out.mono ?_; rintro e w9 ⟨rfl, hb9⟩; refine Hid.out ?_))
                  have HE := Lib.hid (HR9.out.below hb9)
                  clear HX9 HR9 x0 x1 x2 HLK hb9
                  refine Lib.hid ?_
                  go_wp2
                  go_roundw
                  case rel => exact ⟨k + 1, T, _, _, by omega, by go_num, HKS.out, HE.out⟩
                  case measure => simp [intOf]; omega
        · obtain rfl : k = ls.length := by omega
          have HKW := Lib.hid (HKN.out wr hP.bel)
          have HPE := Lib.hid hP.bel
          clear hP
          go_wp2_with (go_at_call 11; refine HKW.out.mono ?_; rintro e w9 ⟨rfl, hb9⟩)
          refine bodyPost_ret (v := .bool true) (by simp [results, Tryd.f3, go_sem]) rfl ⟨rfl, ?_⟩
          exact below_add HPE.out hb9 HPE.out.size
    · refine Lib.hid ?_
      go_wp2_with (first
        | (go_at_call 10; refine (HMY.out w1 hb1).mono ?_; rintro e w2 ⟨hb2, b, rfl, hbb⟩; obtain rfl : b = false := Bool.eq_false_iff.2 (fun h => hmk (hbb.1 h)); clear hbb; have hb12 := below_add hb1 hb2 hb1.size)
        | (go_at_call 11; refine (HKN.out w2 hb12).mono ?_; rintro e w9 ⟨rfl, hb9⟩))
      refine bodyPost_ret (v := .bool true) (by simp [results, Tryd.f3, go_sem]) rfl ⟨rfl, ?_⟩
      exact below_add hb12 hb9 hb12.size
  · have g1 : decide (100 < (ls.length : Int)) = true := by rw [decide_eq_true_iff]; omega
    go_enter Tryd.func3, Tryd.ntmps3
    go_wp2_with (go_at_call 9; refine HN.out.mono ?_; rintro e w1 ⟨hb1, ⟨hmk, s, rfl, hs⟩ | ⟨hmk, rfl⟩⟩; all_goals refine Hid.out ?_)
    · clear hs
      refine Lib.hid ?_
      go_wp2_with (first
        | (go_at_call 10; refine (HMY.out w1 hb1).mono ?_; rintro e w2 ⟨hb2, b, rfl, hbb⟩; obtain rfl : b = true := hbb.2 hmk; clear hbb; have hb12 := below_add hb1 hb2 hb1.size)
        | (go_at_call 11; refine (HKN.out w2 hb12).mono ?_; rintro e w9 ⟨rfl, hb9⟩))
      refine bodyPost_ret (v := .bool true) (by simp [results, Tryd.f3, go_sem]) rfl ⟨rfl, ?_⟩
      exact below_add hb12 hb9 hb12.size
    · refine Lib.hid ?_
      go_wp2_with (first
        | (go_at_call 10; refine (HMY.out w1 hb1).mono ?_; rintro e w2 ⟨hb2, b, rfl, hbb⟩; obtain rfl : b = false := Bool.eq_false_iff.2 (fun h => hmk (hbb.1 h)); clear hbb; have hb12 := below_add hb1 hb2 hb1.size)
        | (go_at_call 11; refine (HKN.out w2 hb12).mono ?_; rintro e w9 ⟨rfl, hb9⟩))
      refine bodyPost_ret (v := .bool true) (by simp [results, Tryd.f3, go_sem]) rfl ⟨rfl, ?_⟩
      exact below_add hb12 hb9 hb12.size
end Go.Proofs.YtiobcifpebehnaaDoor
