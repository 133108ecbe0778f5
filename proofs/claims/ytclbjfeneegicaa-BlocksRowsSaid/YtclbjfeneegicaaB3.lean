
import Derived.Test.YtclbjfeneegicaaB2
import Derived.Test.YtclbjfeneegicaaBU
import Derived.Laws.Cover3
/- B3: blocks and cells in memory -/
namespace Go.Proofs.Ytclbjfeneegicaa
open Go.RowKit
set_option linter.unusedVariables false
set_option maxRecDepth 100000

theorem cell_below {W w' : World} {p : Addr} {v : Value} (hb : Below W.heap.size W w') (h : W.cell? p = some v) : w'.cell? p = some v := (hb.cell (World.block_lt_of_cell? _ _ h)).trans h
/-- A block as it lies, and what its set's slice reads as. -/
structure Bz where
  n : Int
  a : Option Addr
  c : Nat
  s : List Att
instance : Inhabited Bz := ⟨⟨0, none, 0, []⟩⟩
@[reducible] def Bz.v (z : Bz) : Value := .slice z.a z.s.length z.c
def Bz.b (z : Bz) : Bk := ⟨z.n, z.s⟩
/-- A block as one value. -/
@[reducible] def bv (n : Int) (a : Option Addr) (l c : Nat) : Value := .agg #[.int .i64 n, .slice a l c]
@[reducible] def bcs (n : Int) (a : Option Addr) (l c : Nat) : Array Value := #[.int .i64 n, .slice a l c]
def bzC : Cel Bz := ⟨fun z => [.int .i64 z.n, .slice z.a z.s.length z.c], 2, fun _ => rfl, fun z u hu => by
  simp only [List.mem_cons, List.not_mem_nil, or_false] at hu
  rcases hu with rfl | rfl <;> rfl, by decide⟩
/-- A cell as it lies. -/
structure Cz where
  r : Int
  a : Option Addr
  c : Nat
  s : List Att
instance : Inhabited Cz := ⟨⟨0, none, 0, []⟩⟩
@[reducible] def Cz.v (z : Cz) : Value := .slice z.a z.s.length z.c
def czC : Cel Cz := ⟨fun z => [.int .i32 z.r, .slice z.a z.s.length z.c], 2, fun _ => rfl, fun z u hu => by
  simp only [List.mem_cons, List.not_mem_nil, or_false] at hu
  rcases hu with rfl | rfl <;> rfl, by decide⟩
/-- A cell's inline set. -/
def Cz.inl (z : Cz) : List Att := if z.r = 10 then [] else z.s

/-- A slice of blocks that reads as these. -/
structure Zrow (w : World) (v : Value) (zs : List Bz) : Prop where
  row : Row bzC w v zs
  sets : ∀ z ∈ zs, Arow w (.slice z.a z.s.length z.c) z.s
/-- A slice of cells that reads as these. -/
structure Crow (w : World) (v : Value) (zs : List Cz) : Prop where
  row : Row czC w v zs
  sets : ∀ z ∈ zs, Arow w (.slice z.a z.s.length z.c) z.s
/-- A slice of blocks that the call made, sets and all, in blocks from B on. -/
structure Zown (B : Nat) (w : World) (v : Value) (zs : List Bz) : Prop where
  row : w.ownsRow B 34 2 v zs.length (fl bzC zs)
  sets : ∀ z ∈ zs, w.ownsRow B 39 5 (.slice z.a z.s.length z.c) z.s.length (fl attC z.s)
section
variable {B B' : Nat} {w w' : World} {v : Value} {zs : List Bz} {cs : List Cz}
theorem Zrow.below (h : Zrow w v zs) (hb : Below w.heap.size w w') : Zrow w' v zs := ⟨h.row.below hb (Nat.le_refl _), fun z hz => (h.sets z hz).below hb (Nat.le_refl _)⟩
theorem Crow.below (h : Crow w v cs) (hb : Below w.heap.size w w') : Crow w' v cs := ⟨h.row.below hb (Nat.le_refl _), fun z hz => (h.sets z hz).below hb (Nat.le_refl _)⟩
theorem Zrow.nil (w : World) : Zrow w (.slice none 0 0) [] := ⟨Row.nil w, by simp⟩
theorem Zrow.shape (h : Zrow w v zs) : ∃ a cap, v = .slice a zs.length cap := h.row.shape
theorem Crow.shape (h : Crow w v cs) : ∃ a cap, v = .slice a cs.length cap := h.row.shape
theorem Zrow.opn {a : Option Addr} {n cap : Nat} (h : Zrow w (.slice a n cap) zs) (h0 : 0 < zs.length) :
    ∃ b off, a = some ⟨b, off, none⟩ ∧ n = zs.length ∧ zs.length ≤ cap ∧ cap ≤ maxLen ∧ b < w.heap.size ∧ (∀ j (hj : j < zs.length),
      w.cell? ⟨b, off + j * 2, none⟩ = some (.int .i64 zs[j].n) ∧ w.cell? ⟨b, off + j * 2 + 1, none⟩ = some (.slice zs[j].a zs[j].s.length zs[j].c) ∧ Arow w (.slice zs[j].a zs[j].s.length zs[j].c) zs[j].s) := by
  obtain ⟨b, off, ha, hn, hc, hm, hb, hat, -⟩ := Row.opened h.row h0
  exact ⟨b, off, ha, hn, hc, hm, hb, fun j hj => ⟨hat j hj 0 _ rfl, hat j hj 1 _ rfl, h.sets _ (List.getElem_mem hj)⟩⟩
theorem Crow.opn {a : Option Addr} {n cap : Nat} (h : Crow w (.slice a n cap) cs) (h0 : 0 < cs.length) :
    ∃ b off, a = some ⟨b, off, none⟩ ∧ n = cs.length ∧ cs.length ≤ cap ∧ cap ≤ maxLen ∧ b < w.heap.size ∧ (∀ j (hj : j < cs.length),
      w.cell? ⟨b, off + j * 2, none⟩ = some (.int .i32 cs[j].r) ∧ w.cell? ⟨b, off + j * 2 + 1, none⟩ = some (.slice cs[j].a cs[j].s.length cs[j].c) ∧ Arow w (.slice cs[j].a cs[j].s.length cs[j].c) cs[j].s) := by
  obtain ⟨b, off, ha, hn, hc, hm, hb, hat, -⟩ := Row.opened h.row h0
  exact ⟨b, off, ha, hn, hc, hm, hb, fun j hj => ⟨hat j hj 0 _ rfl, hat j hj 1 _ rfl, h.sets _ (List.getElem_mem hj)⟩⟩
theorem att_row {s : List Att} {a : Option Addr} {c : Nat} (h : w.ownsRow B 39 5 (.slice a s.length c) s.length (fl attC s)) : Arow w (.slice a s.length c) s := (Row.of_owns (C := attC) h).1
theorem Zown.zrow (h : Zown B w v zs) : Zrow w v zs := ⟨(Row.of_owns (C := bzC) h.row).1, fun z hz => att_row (h.sets z hz)⟩
theorem Zown.below (h : Zown B w v zs) (hb : Below w.heap.size w w') : Zown B w' v zs := ⟨owns_below h.row hb, fun z hz => owns_below (h.sets z hz) hb⟩
theorem Zown.mono (h : Zown B w v zs) (hB : B' ≤ B) : Zown B' w v zs := ⟨owns_mono h.row hB, fun z hz => owns_mono (h.sets z hz) hB⟩
theorem Zown.nil (B : Nat) (w : World) : Zown B w (.slice none 0 0) [] := ⟨World.ownsRow_nil _ _ _ _, by simp⟩
theorem Zown.off {S : Nat → Prop} (h : Zown B w v zs) (ho : Off S w w') (hS : ∀ k, B ≤ k → k < w.heap.size → ¬ S k) : Zown B w' v zs :=
  ⟨owns_kept h.row (fun g hg => ho.block g (own_lt7 h.row hg) (hS g (own_base h.row hg) (own_lt7 h.row hg))),
   fun z hz => owns_kept (h.sets z hz) (fun g hg => ho.block g (own_lt7 (h.sets z hz) hg) (hS g (own_base (h.sets z hz) hg) (own_lt7 (h.sets z hz) hg)))⟩
theorem Zown.shape (h : Zown B w v zs) : ∃ a c, v = .slice a zs.length c := h.zrow.shape
/-- A world in which only the blocks' own row may have turned: sets stay. -/
theorem sets_kept {row : Value} {n : Nat} {xs : List Value} (hr : w.ownsRow B' 34 2 row n xs) (ho : Off (fun k => row.ownBlock = some k) w w') {u : Value} {m : Nat} {ys : List Value} (h : w.ownsRow B 39 5 u m ys) : w'.ownsRow B 39 5 u m ys :=
  owns_kept h fun g hg => ho.block g (own_lt7 h hg) fun hS => by
    obtain ⟨c1, h1⟩ := own_tag h hg
    obtain ⟨c2, h2⟩ := own_tag hr hS
    rw [h1] at h2
    injection h2 with h2
    injection h2 with _ h2 _
    exact absurd h2 (by decide)
/-- One more block behind a row of the call's own, the row as it grew. -/
theorem Zown.more {v' : Value} (h : Zown B w v zs) (hg : w.grownBy w' v.ownBlock) (z : Bz) (hz : w.ownsRow B 39 5 (.slice z.a z.s.length z.c) z.s.length (fl attC z.s))
    (ho : w'.ownsRow B 34 2 v' (zs.length + 1) (fl bzC zs ++ bzC.c z)) : Zown B w' v' (zs ++ [z]) := by
  refine ⟨?_, fun y hy => ?_⟩
  · rw [List.length_append, fl_app, fl_one]; exact ho
  · have hO : Off (fun k => v.ownBlock = some k) w w' := Off.of_grown hg (fun g hg => hg)
    rcases List.mem_append.1 hy with hy | hy
    · exact sets_kept h.row hO (h.sets y hy)
    · obtain rfl := List.mem_singleton.1 hy
      exact sets_kept h.row hO hz
/-- The last block of a row of the call's own counts more places. -/
theorem Zown.set {l0 : List Bz} {y : Bz} {g cap : Nat} (h : Zown B w (.slice (some ⟨g, 0, none⟩) (l0.length + 1) cap) (l0 ++ [y])) (m : Int) :
    Zown B (w.setCell ⟨g, l0.length * 2, none⟩ (.int .i64 m)) (.slice (some ⟨g, 0, none⟩) (l0.length + 1) cap) (l0 ++ [⟨m, y.a, y.c, y.s⟩]) := by
  have hO : Off (fun k => (Value.slice (some ⟨g, 0, none⟩) (l0.length + 1) cap).ownBlock = some k) w (w.setCell ⟨g, l0.length * 2, none⟩ (.int .i64 m)) := Off.of_grown (grown_set _) (fun k hk => by cases hk; rfl)
  have hr := h.row
  have e1 : (l0 ++ [y]).length = l0.length + 1 := by simp
  rw [e1] at hr
  refine ⟨?_, fun z hz => ?_⟩
  · have := owns_set hr (j := l0.length * 2) (.int .i64 m)
    have e2 : (fl bzC (l0 ++ [y])).set (l0.length * 2) (.int .i64 m) = fl bzC (l0 ++ [⟨m, y.a, y.c, y.s⟩]) := by
      rw [fl_app, fl_app, fl_one, fl_one, List.set_append_right _ _ (by rw [fl_len]; exact Nat.le_refl _), fl_len]
      rw [show l0.length * 2 - l0.length * bzC.m = 0 from Nat.sub_self _]
      rfl
    rw [e2] at this
    have e3 : (l0 ++ [(⟨m, y.a, y.c, y.s⟩ : Bz)]).length = l0.length + 1 := by simp
    rw [e3]; exact this
  · rcases List.mem_append.1 hz with hz | hz
    · exact sets_kept hr hO (h.sets z (List.mem_append_left _ hz))
    · obtain rfl := List.mem_singleton.1 hz
      exact sets_kept hr hO (h.sets y (List.mem_append_right _ (List.mem_singleton.2 rfl)))
end
theorem info_bk : ∃ i, Try.prog.info? 34 = some i ∧ i.zero = some (bv 0 none 0 0) ∧ i.size = 2 ∧ i.bytes = 32 := ⟨_, rfl, rfl, rfl, rfl⟩
theorem info_cell : ∃ i, Try.prog.info? 44 = some i ∧ i.zero = some (.agg #[.int .i32 0, .slice none 0 0]) ∧ i.size = 2 ∧ i.bytes = 32 := ⟨_, rfl, rfl, rfl, rfl⟩
theorem info_att5 : ∃ i, Try.prog.info? 39 = some i ∧ i.zero = some (av noAtt) ∧ i.size = 5 ∧ i.bytes = 48 := ⟨_, rfl, rfl, rfl, rfl⟩
theorem Row.one_bk (w : World) (z : Bz) (t : TypeId) : Row bzC (w.alloc (.cells #[.int .i64 z.n, .slice z.a z.s.length z.c] t)) (.slice (some ⟨w.heap.size, 0, none⟩) 1 1) [z] := Row.built (C := bzC) w t [z] (by simp [maxLen])

/-! ### a set copied -/
theorem owns_none (w : World) (e : TypeId) (m : Nat) : (w.alloc (.cells #[] e)).ownsRow w.heap.size e m (.slice (some ⟨w.heap.size, 0, none⟩) 0 0) 0 [] :=
  ⟨by simp, .inr ⟨w.heap.size, 0, #[], rfl, Nat.le_refl _, heap_alloc_new w _, Nat.le_refl _, by simp, by simp, by simp⟩⟩
theorem nil_eql (a : Option Addr) (l c : Nat) (w : World) : (binOp .eql 24 (.slice a l c) (.slice none 0 0)).run Try.prog w = .ok (.bool a.isNone) w := by
  simp only [binOp, Sem.run_bind, run_equal_slice_nil w 24 39 a l c Try.underlying24, Result.andThen_ok, Sem.run_pure]
theorem clone_any (v : Value) (xs : List Att) (w : World) (hv : Arow w v xs) (hl : xs.length * 48 ≤ 140737488355328) :
    Calls Try.prog 33 #[v] w fun e w' => ∃ u, e = .returned u ∧ w'.ownsRow w.heap.size 39 5 u xs.length (fl attC xs) ∧ Below w.heap.size w w' := by
  obtain ⟨i0, hi, hz0, hz1, hz2⟩ := info_att5
  have HV := Lib.hid hv
  have hnil := fun a l c w => nil_eql a l c w
  obtain ⟨a, cap, rfl⟩ := hv.shape
  cases a with
  | none =>
    obtain ⟨rfl, rfl⟩ : xs = [] ∧ cap = 0 := by
      rcases hv with ⟨_, _, h, hx, _, h0⟩ | ⟨_, _, _, h, _⟩
      · injection h with h1 _ h3; subst hx; exact ⟨rfl, by rw [h3]; exact h0 h1.symm⟩
      · injection h with h1; cases h1
    clear hv HV
    go_enter Try.func33, Try.ntmps33
    go_wp2
    go_ret
    exact ⟨_, rfl, World.ownsRow_nil _ _ _ _, Below.refl _ _⟩
  | some a =>
    clear hv
    have hB := (Below.refl w.heap.size w).alloc (Nat.le_refl _) (.cells #[] 39)
    go_enter Try.func33, Try.ntmps33
    go_wp2_with (at_builtin; refine wpList_append_row (C := attC) rfl (.tmp 5) (.tmp 6) 24 rfl w.heap.size 39 i0 (av noAtt) 48 Try.underlying24 hi hz0 hz1 hz2 rfl _ 0 [] rfl (owns_none w 39 5) _ xs rfl (HV.out.below hB (Nat.le_refl _)) (by unfold maxLen; omega) (by omega) (by simp) ?_; intro v3 w3 hown3 hgrow3)
    go_ret
    refine ⟨_, rfl, ?_, hB.grown hgrow3 (by simp) (fun j hj => own_base (owns_none w 39 5) hj)⟩
    have h : w3.ownsRow w.heap.size 39 attC.m v3 (0 + xs.length) ([] ++ fl attC xs) := hown3
    rw [Nat.zero_add, List.nil_append] at h
    exact h
/-- Copy: the same, in memory of the call's own. -/
theorem copy_any (v : Value) (xs : List Att) (w : World) (hv : Arow w v xs) (hl : xs.length * 48 ≤ 140737488355328) :
    Calls Try.prog 26 #[v] w fun e w' => ∃ a c, e = .returned (.slice a xs.length c) ∧ w'.ownsRow w.heap.size 39 5 (.slice a xs.length c) xs.length (fl attC xs) ∧ Below w.heap.size w w' := by
  have HC := Lib.hid (clone_any v xs w hv hl)
  clear hv
  go_enter Try.func26, Try.ntmps26
  go_wp2_with (go_at_call 33; refine HC.out.mono ?_; rintro e w1 ⟨u, rfl, ho, hb⟩; obtain ⟨a, c, rfl, -, -⟩ := own_shape ho)
  go_ret
  exact ⟨a, c, rfl, ho, hb⟩
end Go.Proofs.Ytclbjfeneegicaa
