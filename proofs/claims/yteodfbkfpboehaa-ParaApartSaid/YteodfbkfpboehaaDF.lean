
import Derived.Test.YteodfbkfpboehaaD6
import Derived.Test.YteodfbkfpboehaaDDX
import Derived.Deep.RegionHeld3
/- DF: a tree of runs in memory; a node, a thing, by its number -/
namespace Go.Proofs.Yteodfbkfpboehaa
open Go.RowKit
set_option linter.unusedVariables false
set_option maxRecDepth 100000

/-- How many records runs are together. -/
def lnS (l : List Ck) : Nat := (l.map Ck.n).sum
theorem lnS_app (a b : List Ck) : lnS (a ++ b) = lnS a + lnS b := by simp [lnS]
theorem lnS_l (x : Ck) : lnS x.l = x.n := by unfold Ck.l lnS; split <;> simp_all
def Wc : Way Ck Ck := ⟨Ck.l, lnS, lnS_app, fun _ => 0, fun a b => rfl⟩
abbrev TC := Tr Ck
abbrev tyT : TypeId := 92
abbrev tyN : TypeId := 102
abbrev tyX : TypeId := 61
abbrev tyZ : TypeId := 74
def fMea : Value := .func (.func 54) #[] #[]
def fCut : Value := .func (.func 55) #[] #[]
def fMel : Value := .func (.func 56) #[] #[]
/-- What a slice reads as hangs on its block alone. -/
theorem Row.keep {α : Type} {C : Cel α} {w w' : World} {v : Value} {xs : List α} (h : Row C w v xs) (hk : ∀ k, v.ownBlock = some k → w'.heap[k]? = w.heap[k]?) : Row C w' v xs := by
  rcases h with h | ⟨b, off, cap, rfl, h0, h1, h2, h3⟩
  · exact .inl h
  · refine .inr ⟨b, off, cap, rfl, h0, h1, h2, fun j u hu => ?_⟩
    have := h3 j u hu
    have e := hk b rfl
    simp only [World.cell?] at this ⊢
    rw [e]
    exact this
/-- A tree's own block, and its arenas', in blocks of S; the sets of D lie in S, apart from these. -/
structure TrM (D : Sv → Prop) (S : Nat → Prop) (tb an cn : Nat) (U V : Nat → Prop) (root : Int) (A : ArS Nd) (C : ArS Ck) (w : World) : Prop where
  hd : w.heap[tb]? = some (.cells #[fMea, fCut, fMel, .pointer (some ⟨an, 0, none⟩), .pointer (some ⟨cn, 0, none⟩), .int .i64 root] 92 (0, 0))
  nodes : At_N U an A w
  things : At_X V cn C w
  uS : ∀ k, U k → S k
  vS : ∀ k, V k → S k
  tS : S tb
  uv : ∀ k, U k → ¬ V k
  ut : ¬ U tb
  vt : ¬ V tb
  uw : ∀ k, U k → k < w.heap.size
  vw : ∀ k, V k → k < w.heap.size
  kD : ∀ d, D d → Arow w d.v d.s ∧ d.s.length ≤ 100000 ∧ ∀ k, d.v.ownBlock = some k → S k ∧ ¬ U k ∧ ¬ V k ∧ k ≠ tb ∧ k < w.heap.size
  cD : ∀ (t : Nat) (x : Ck), C.at_ t = some x → D x.d
def Up (S : Nat → Prop) (w : World) : Prop := ∀ k, w.heap.size ≤ k → S k
section
variable {D : Sv → Prop} {S : Nat → Prop} {tb an cn : Nat} {U V : Nat → Prop} {root : Int} {A A' : ArS Nd} {C C' : ArS Ck} {w w' : World}
theorem TrM.lt (h : TrM D S tb an cn U V root A C w) : tb < w.heap.size := lt_of_heap h.hd
theorem TrM.kept (h : TrM D S tb an cn U V root A C w) (hz : w.heap.size ≤ w'.heap.size) (hk : ∀ k, k < w.heap.size → S k → w'.heap[k]? = w.heap[k]?) : TrM D S tb an cn U V root A C w' :=
  ⟨(hk tb h.lt h.tS).trans h.hd, h.nodes.kept (fun k hk' hU => hk k hk' (h.uS k hU)), h.things.kept (fun k hk' hV => hk k hk' (h.vS k hV)), h.uS, h.vS, h.tS, h.uv, h.ut, h.vt, fun k hU => Nat.lt_of_lt_of_le (h.uw k hU) hz, fun k hV => Nat.lt_of_lt_of_le (h.vw k hV) hz,
  fun d hd => by
    obtain ⟨q1, q2, q3⟩ := h.kD d hd
    exact ⟨q1.keep (fun k hk' => hk k (q3 k hk').2.2.2.2 (q3 k hk').1), q2, fun k hk' => ⟨(q3 k hk').1, (q3 k hk').2.1, (q3 k hk').2.2.1, (q3 k hk').2.2.2.1, Nat.lt_of_lt_of_le (q3 k hk').2.2.2.2 hz⟩⟩, h.cD⟩
theorem TrM.below (h : TrM D S tb an cn U V root A C w) (hb : Below w.heap.size w w') : TrM D S tb an cn U V root A C w' := h.kept hb.size (fun k hk _ => hb.block k hk)
theorem TrM.off {X : Nat → Prop} (h : TrM D S tb an cn U V root A C w) (ho : Off X w w') (hd : ∀ k, S k → ¬ X k) : TrM D S tb an cn U V root A C w' := h.kept ho.size (fun k hk hS => ho.block k hk (hd k hS))
theorem TrM.mono (h : TrM D S tb an cn U V root A C w) {S' : Nat → Prop} (hS : ∀ k, S k → S' k) : TrM D S' tb an cn U V root A C w :=
  ⟨h.hd, h.nodes, h.things, fun k hk => hS k (h.uS k hk), fun k hk => hS k (h.vS k hk), hS _ h.tS, h.uv, h.ut, h.vt, h.uw, h.vw, fun d hd => ⟨(h.kD d hd).1, (h.kD d hd).2.1, fun k hk => ⟨hS k ((h.kD d hd).2.2 k hk).1, ((h.kD d hd).2.2 k hk).2⟩⟩, h.cD⟩
theorem TrM.cut (h : TrM D S tb an cn U V root A C w) : TrM D (fun k => S k ∧ k < w.heap.size) tb an cn U V root A C w :=
  ⟨h.hd, h.nodes, h.things, fun k hk => ⟨h.uS k hk, h.uw k hk⟩, fun k hk => ⟨h.vS k hk, h.vw k hk⟩, ⟨h.tS, h.lt⟩, h.uv, h.ut, h.vt, h.uw, h.vw, fun d hd => ⟨(h.kD d hd).1, (h.kD d hd).2.1, fun k hk => ⟨⟨((h.kD d hd).2.2 k hk).1, ((h.kD d hd).2.2 k hk).2.2.2.2⟩, ((h.kD d hd).2.2 k hk).2⟩⟩, h.cD⟩
theorem TrM.cells (h : TrM D S tb an cn U V root A C w) : w.cell? ⟨tb, 0, none⟩ = some fMea ∧ w.cell? ⟨tb, 1, none⟩ = some fCut ∧ w.cell? ⟨tb, 2, none⟩ = some fMel ∧ w.cell? ⟨tb, 3, none⟩ = some (.pointer (some ⟨an, 0, none⟩)) ∧ w.cell? ⟨tb, 4, none⟩ = some (.pointer (some ⟨cn, 0, none⟩)) ∧ w.cell? ⟨tb, 5, none⟩ = some (.int .i64 root) ∧ (∀ o, w.frozen? ⟨tb, o, none⟩ = false) := by
  refine ⟨?_, ?_, ?_, ?_, ?_, ?_, fun o => by simp [World.frozen?, h.hd]⟩ <;> (rw [cell_of_row w tb _ _ _ _ h.hd]; rfl)
/-- The nodes' arena has turned. -/
theorem TrM.stepN (h : TrM D S tb an cn U V root A C w) (hup : Up S w) (ho : Off U w w') (hn : At_N (fun k => U k ∨ w.heap.size ≤ k) an A' w') : TrM D S tb an cn (fun k => (U k ∨ w.heap.size ≤ k) ∧ k < w'.heap.size) V root A' C w' := by
  refine ⟨(ho.block tb h.lt h.ut).trans h.hd, hn.cutS, h.things.off ho (fun k hV hU => h.uv k hU hV), fun k hk => ?_, h.vS, h.tS, fun k hk hV => ?_, fun hk => ?_, h.vt, fun k hk => hk.2, fun k hV => Nat.lt_of_lt_of_le (h.vw k hV) ho.size, fun d hd => ?_, h.cD⟩
  · rcases hk.1 with hk | hk
    · exact h.uS k hk
    · exact hup k hk
  · rcases hk.1 with hk | hk
    · exact h.uv k hk hV
    · have := h.vw k hV; omega
  · rcases hk.1 with hk | hk
    · exact h.ut hk
    · have := h.lt; omega
  · obtain ⟨q1, q2, q3⟩ := h.kD d hd
    refine ⟨q1.keep (fun k hk => ho.block k (q3 k hk).2.2.2.2 (q3 k hk).2.1), q2, fun k hk => ⟨(q3 k hk).1, fun hh => ?_, (q3 k hk).2.2.1, (q3 k hk).2.2.2.1, Nat.lt_of_lt_of_le (q3 k hk).2.2.2.2 ho.size⟩⟩
    rcases hh.1 with hh | hh
    · exact (q3 k hk).2.1 hh
    · have := (q3 k hk).2.2.2.2; omega
/-- The things' arena has turned. -/
theorem TrM.stepX (h : TrM D S tb an cn U V root A C w) (hup : Up S w) (ho : Off V w w') (hn : At_X (fun k => V k ∨ w.heap.size ≤ k) cn C' w') (hC : ∀ (t : Nat) (x : Ck), C'.at_ t = some x → D x.d) : TrM D S tb an cn U (fun k => (V k ∨ w.heap.size ≤ k) ∧ k < w'.heap.size) root A C' w' := by
  refine ⟨(ho.block tb h.lt h.vt).trans h.hd, h.nodes.off ho (fun k hU hV => h.uv k hU hV), hn.cutS, h.uS, fun k hk => ?_, h.tS, fun k hU hk => ?_, h.ut, fun hk => ?_, fun k hU => Nat.lt_of_lt_of_le (h.uw k hU) ho.size, fun k hk => hk.2, fun d hd => ?_, hC⟩
  · rcases hk.1 with hk | hk
    · exact h.vS k hk
    · exact hup k hk
  · rcases hk.1 with hk | hk
    · exact h.uv k hU hk
    · have := h.uw k hU; omega
  · rcases hk.1 with hk | hk
    · exact h.vt hk
    · have := h.lt; omega
  · obtain ⟨q1, q2, q3⟩ := h.kD d hd
    refine ⟨q1.keep (fun k hk => ho.block k (q3 k hk).2.2.2.2 (q3 k hk).2.2.1), q2, fun k hk => ⟨(q3 k hk).1, (q3 k hk).2.1, fun hh => ?_, (q3 k hk).2.2.2.1, Nat.lt_of_lt_of_le (q3 k hk).2.2.2.2 ho.size⟩⟩
    rcases hh.1 with hh | hh
    · exact (q3 k hk).2.2.1 hh
    · have := (q3 k hk).2.2.2.2; omega
theorem TrM.offN (h : TrM D S tb an cn U V root A C w) (ho : Off U w w') : Off S w w' := ho.mono h.uS
theorem TrM.offX (h : TrM D S tb an cn U V root A C w) (ho : Off V w w') : Off S w w' := ho.mono h.vS
theorem Up.size (h : Up S w) (hz : w.heap.size ≤ w'.heap.size) : Up S w' := fun k hk => h k (by omega)
theorem Up.below (h : Up S w) {B : Nat} (hb : Below B w w') : Up S w' := h.size hb.size
theorem Up.off (h : Up S w) {X : Nat → Prop} (ho : Off X w w') : Up S w' := h.size ho.size
theorem Off.below_r {a b c : World} (h : Off S a b) (k : Below b.heap.size b c) : Off S a c := h.seq (Off.of_below k)
theorem Off.below_l {a b c : World} (h : Below a.heap.size a b) (k : Off S b c) : Off S a c := (Off.of_below h).seq k

/-! ### a node's variable, a thing's variable -/
@[reducible] def ndv (N : Nd) : Value := .agg #[.int .i64 N.held, .int .i64 N.height, .int .i64 N.len, .int .i64 N.marks, .int .i64 N.left, .int .i64 N.right, .int .i64 N.thing]
@[reducible] def ndc (N : Nd) : Array Value := #[.int .i64 N.held, .int .i64 N.height, .int .i64 N.len, .int .i64 N.marks, .int .i64 N.left, .int .i64 N.right, .int .i64 N.thing]
@[reducible] def ndz : Array Value := #[.int .i64 0, .int .i64 0, .int .i64 0, .int .i64 0, .int .i64 0, .int .i64 0, .int .i64 0]
/-- Block b holds these cells, as a variable of type t. -/
def Cb (b : Nat) (t : TypeId) (cs : Array Value) (w : World) : Prop := w.heap[b]? = some (.cells cs t (0, 0))
theorem Cb.below {b : Nat} {t : TypeId} {cs : Array Value} (h : Cb b t cs w) (hb : Below w.heap.size w w') : Cb b t cs w' := (hb.block b (lt_of_heap h)).trans h
theorem Cb.off {b : Nat} {t : TypeId} {cs : Array Value} {X : Nat → Prop} (h : Cb b t cs w) (ho : Off X w w') (hx : ¬ X b) : Cb b t cs w' := (ho.block b (lt_of_heap h) hx).trans h
theorem Cb.alloc {b : Nat} {t : TypeId} {cs : Array Value} (h : Cb b t cs w) (o : Obj) : Cb b t cs (w.alloc o) := (heap_alloc_old w o (lt_of_heap h)).trans h
theorem Cb.lt {b : Nat} {t : TypeId} {cs : Array Value} (h : Cb b t cs w) : b < w.heap.size := lt_of_heap h
theorem Cb.set {b : Nat} {t : TypeId} {cs : Array Value} (h : Cb b t cs w) (ds : Array Value) : Cb b t ds (w.setRow b ds) := setRow_heap _ _ _ ds _ _ h
theorem Cb.other {b c : Nat} {t : TypeId} {cs : Array Value} (h : Cb b t cs w) (hn : b ≠ c) (ds : Array Value) : Cb b t cs (w.setRow c ds) := (setRow_other w c b ds hn).trans h
theorem Cb.cell {b : Nat} {t : TypeId} {cs : Array Value} (h : Cb b t cs w) (o : Nat) : w.cell? ⟨b, o, none⟩ = cs[o]? := cell_of_row w b o _ _ _ h
theorem Cb.frozen {b : Nat} {t : TypeId} {cs : Array Value} (h : Cb b t cs w) (o : Nat) : w.frozen? ⟨b, o, none⟩ = false := by simp [World.frozen?, show w.heap[b]? = _ from h]
theorem cb_new (w : World) (t : TypeId) (cs : Array Value) : Cb w.heap.size t cs (w.alloc (.cells cs t)) := heap_alloc_new w _
theorem below_row {B b : Nat} {a : World} {cs : Array Value} (h : Below B a w) (hb : B ≤ b) : Below B a (w.setRow b cs) := below_setRow h hb cs
theorem ninfo (N : Nd) : (Try.prog.info? 102).map (·.size) = some (ndc N).size := ainfo_N _ rfl
theorem none_n (N : Nd) : (ndc N).all (·.oneCell') = true := cone_N N
theorem thc_size (x : Ck) : (K_X.c x).toArray.size = 2 := csize_X x

theorem at_any (T : TC) (h : TrM D S tb an cn U V root A C w) (hT : T.In Wc A C) :
    Calls Try.prog 51 #[.pointer (some ⟨tb, 0, none⟩), .int .i64 T.id] w fun e w' => e = .returned (ndv (T.nd Wc)) ∧ Below w.heap.size w w' := by
  obtain ⟨N, hN⟩ : ∃ N, T.nd Wc = N := ⟨_, rfl⟩
  have hb := (Below.refl w.heap.size w).alloc (Nat.le_refl _) (.cells ndz 102)
  have h1 := h.below hb
  have hat : ∃ er, Calls Try.prog 63 #[.pointer (some ⟨an, 0, none⟩), .int .i64 T.id] (w.alloc (.cells ndz 102)) fun e w' => e = .returned (.tuple #[ndv N, .int .i64 er]) ∧ Below (w.alloc (.cells ndz 102)).heap.size (w.alloc (.cells ndz 102)) w' := by
    cases T with
    | nil => exact ⟨5, by rw [← hN]; exact at_not_N h1.nodes (has_neg (by simp [Tr.id]))⟩
    | leaf n t x => exact ⟨0, by rw [← hN]; exact ats_N h1.nodes hT.1⟩
    | fork n l r => exact ⟨0, by rw [← hN]; exact ats_N h1.nodes hT.1⟩
  obtain ⟨er, hat⟩ := hat
  have HAT := Lib.hid hat
  obtain ⟨-, -, -, c3, -⟩ := h1.cells
  obtain ⟨ti, hti⟩ : ∃ ti, T.id = ti := ⟨_, rfl⟩
  rw [hti] at HAT ⊢
  rw [hN]
  have B0 := Lib.hid hb
  have R0 := Lib.hid (cb_new w 102 ndz)
  have HI := Lib.hid (ninfo N)
  have HO := Lib.hid (none_n N)
  clear h h1 hb hat hti hT
  go_enter Try.func51, Try.ntmps51
  go_wp2_with (first
    | (go_at_call 63; refine HAT.out.mono ?_; rintro e w1 ⟨rfl, b1⟩; have R1 := Lib.hid ((R0.out.below b1).alloc (.cells ndz 102)); have B1 := Lib.hid ((below_add B0.out b1 (by simp)).alloc (by have := B0.out.size; have := b1.size; omega) (.cells ndz 102)); have V1 := Lib.hid (cb_new w1 102 ndz); have Z1 := Lib.hid (show w.heap.size < w1.heap.size by have := b1.size; simp at this; omega); clear b1)
    | (refine wpList_store_row rfl 102 (.tmp 5) (.tmp 14) rfl w1.heap.size (ndc N) rfl rfl _ _ V1.out HI.out rfl HO.out ?_)
    | (refine wpList_load_roww 102 (.tmp 5) rfl w1.heap.size rfl (by rfl) _ _ _ _ (V1.out.set (ndc N)) Try.underlying102 rfl HI.out ?_)
    | (refine wpList_store_row rfl 102 (.tmp 4) (.tmp 16) rfl w.heap.size (ndc N) rfl rfl _ _ (R1.out.other (by have := Z1.out; omega) (ndc N)) HI.out rfl HO.out ?_))
  have hf := (R1.out.other (c := w1.heap.size) (by have := Z1.out; omega) (ndc N)).set (ndc N)
  exact bodyPost_ret (results_cell_row Try.results51 _ _ _ _ _ _ _ rfl hf Try.underlying102 rfl HI.out) rfl ⟨rfl, below_row (below_row B1.out (by have := Z1.out; omega)) (Nat.le_refl _)⟩
end
end Go.Proofs.Yteodfbkfpboehaa
