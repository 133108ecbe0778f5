
import Derived.Test.YtnggnfhaokkcmaaN32
/- N33: the reference's Is; what a law writes over -/
namespace Go.Proofs.Ytnggnfhaokkcmaa
open Go.RowKit
set_option linter.unusedVariables false
set_option maxRecDepth 100000

theorem ris_any (u : Value) (xs : List Oz) (w : World) (hx : Orow w u xs) (hi : LIn xs) (ht : Tame xs) :
    Calls Try.prog 16 #[u] w fun e w' => e = .returned (.bool (decide (formO (xs.map Oz.o) = xs.map Oz.o))) ∧ Below w.heap.size w w' := by
  have HO := Lib.hid (rof_any u xs w hx hi ht)
  have HX := Lib.hid (fun W (hb : Below w.heap.size w W) => hx.below hb)
  clear hx hi ht
  go_enter Try.func16, Try.ntmps16
  go_wp2_with fail
  refine HO.out.mono ?_
  rintro e w1 ⟨v, ys, rfl, he, ho, hb⟩
  have hs := rosame_any v u ys xs w1 ho.orow (HX.out w1 hb)
  rw [he] at hs
  have HS := Lib.hid hs
  have HB := Lib.hid hb
  clear he ho hb hs
  go_wp2_with (go_at_call 14; (with_reducible refine HS.out.mono ?_); rintro e w2 ⟨rfl, hb⟩; have HB2 := Lib.hid (below_add HB.out hb HB.out.size); clear hb)
  go_ret
  exact ⟨rfl, HB2.out⟩

/-! ### a law's data, told by what its ops are -/
theorem sm_o {y z : Oz} (h : y.o = z.o) (hs : Sm z) : Sm y := by
  have h1 : y.rs = z.rs := congrArg Opn.rs h
  have h2 : y.st = z.st := congrArg Opn.st h
  have h3 : y.pt = z.pt := congrArg Opn.pt h
  exact ⟨by rw [h1]; exact hs.r, by rw [h2]; exact hs.s, by rw [h3]; exact hs.p⟩
theorem mem_o {ys xs : List Oz} (h : ys.map Oz.o = xs.map Oz.o) {y : Oz} (hy : y ∈ ys) : ∃ x ∈ xs, y.o = x.o := by
  have : y.o ∈ xs.map Oz.o := by rw [← h]; exact List.mem_map_of_mem hy
  obtain ⟨x, hx, e⟩ := List.mem_map.1 this
  exact ⟨x, hx, e.symm⟩
theorem in_o {ys xs : List Oz} (h : ys.map Oz.o = xs.map Oz.o) (hi : In xs) : In ys := by
  have hl := congrArg List.length h
  rw [List.length_map, List.length_map] at hl
  refine ⟨fun y hy => ?_, fun y hy => ?_, by rw [hl]; exact hi.len, by rw [h]; exact hi.rs⟩
  · obtain ⟨x, hx, e⟩ := mem_o h hy
    exact sm_o e (hi.sm x hx)
  · obtain ⟨x, hx, e⟩ := mem_o h hy
    have : y.n = x.n := congrArg Opn.n e
    rw [this]; exact hi.n x hx
theorem tame_o {ys xs : List Oz} (h : ys.map Oz.o = xs.map Oz.o) (ht : Tame xs) : Tame ys := ⟨by rw [h]; exact ht.tm, by rw [h]; exact ht.n⟩
theorem copy_h {u : Value} {xs : List Oz} {w : World} (hx : Orow w u xs) (hi : In xs) :
    Calls Try.prog 11 #[u] w fun e w' => ∃ a n c ys, e = .returned (.slice a n c) ∧ ys.length = n ∧ ys.map Oz.o = xs.map Oz.o ∧ Oown (fun g => w.heap.size ≤ g) w' (.slice a n c) ys ∧ Below w.heap.size w w' := by
  refine (rocopy_any u xs w hx hi.len hi.sm).mono fun e w' ⟨v, ys, he, hy, ho, hb⟩ => ?_
  obtain ⟨a, c, rfl, -, -⟩ := ho.shape
  exact ⟨a, _, c, ys, he, rfl, hy, ho, hb⟩

/-! ### what is written over -/
/-- The blocks that may be written to. -/
def Sb (v : Value) (ys : List Oz) : Nat → Prop := fun k => v.ownBlock = some k ∨ ∃ z ∈ ys, z.rv.ownBlock = some k ∨ z.sv.ownBlock = some k ∨ z.pv.ownBlock = some k
/-- Some number of this kind lies there, and may be written over. -/
def NumAt (K : IntKind) (W : World) (p : Addr) : Prop := (∃ v, W.cell? p = some (.int K v)) ∧ W.frozen? p = false
/-- The row as it is while its numbers are written over. -/
structure WrO (W0 : World) (v : Value) (ys : List Oz) (W : World) : Prop where
  off : Off (Sb v ys) W0 W
  row : ∀ j (hj : j < ys.length), ∃ g c, v = .slice (some ⟨g, 0, none⟩) ys.length c ∧ W.cell? ⟨g, j * 5 + 2, none⟩ = some (.slice ys[j].ra ys[j].rs.length ys[j].rc) ∧ W.cell? ⟨g, j * 5 + 3, none⟩ = some (.slice ys[j].sa ys[j].st.length ys[j].sc) ∧ W.cell? ⟨g, j * 5 + 4, none⟩ = some (.slice ys[j].pa ys[j].pt.length ys[j].pc) ∧ NumAt .i64 W ⟨g, j * 5 + 1, none⟩
  r : ∀ z ∈ ys, ∀ j, j < z.rs.length → ∃ g, z.ra = some ⟨g, 0, none⟩ ∧ z.rs.length ≤ z.rc ∧ NumAt .i32 W ⟨g, j, none⟩
  s : ∀ z ∈ ys, ∀ j, j < z.st.length → ∃ g, z.sa = some ⟨g, 0, none⟩ ∧ z.st.length ≤ z.sc ∧ NumAt .i64 W ⟨g, j * 5, none⟩
  p : ∀ z ∈ ys, ∀ j, j < z.pt.length → ∃ g, z.pa = some ⟨g, 0, none⟩ ∧ z.pt.length ≤ z.pc ∧ NumAt .i64 W ⟨g, j * 6, none⟩
theorem num_set {K K2 : IntKind} {W : World} {p q : Addr} {u : Int} (hp : NumAt K W p) (hq : NumAt K2 W q) : NumAt K2 (W.setCell p (.int K u)) q := by
  obtain ⟨⟨v, hv⟩, -⟩ := hp
  obtain ⟨⟨v2, hv2⟩, hf⟩ := hq
  refine ⟨?_, by rw [World.frozen?_setCell]; exact hf⟩
  by_cases e : p = q
  · subst e
    rw [hv] at hv2
    injection hv2 with hv2
    injection hv2 with hk _
    subst hk
    exact ⟨u, World.cell?_setCell_same _ _ _ hv⟩
  · exact ⟨v2, (World.cell?_setCell_other _ _ _ _ e).trans hv2⟩
theorem slice_set {K : IntKind} {W : World} {p q : Addr} {u : Int} {a : Option Addr} {n c : Nat} (hp : NumAt K W p) (hq : W.cell? q = some (.slice a n c)) : (W.setCell p (.int K u)).cell? q = some (.slice a n c) := by
  obtain ⟨⟨v, hv⟩, -⟩ := hp
  refine (World.cell?_setCell_other _ _ _ _ (fun e => ?_)).trans hq
  subst e
  rw [hv] at hq
  cases hq
theorem WrO.set {W0 W : World} {v : Value} {ys : List Oz} (h : WrO W0 v ys W) {K : IntKind} {g o : Nat} (hp : NumAt K W ⟨g, o, none⟩) (hg : Sb v ys g) (u : Int) : WrO W0 v ys (W.setCell ⟨g, o, none⟩ (.int K u)) := by
  refine ⟨h.off.seq (Off.of_grown (grown_set _) (fun k hk => by cases hk; exact hg)), fun j hj => ?_, fun z hz j hj => ?_, fun z hz j hj => ?_, fun z hz j hj => ?_⟩
  · obtain ⟨g2, c, e, h1, h2, h3, h4⟩ := h.row j hj
    exact ⟨g2, c, e, slice_set hp h1, slice_set hp h2, slice_set hp h3, num_set hp h4⟩
  · obtain ⟨g2, e, hc, h1⟩ := h.r z hz j hj
    exact ⟨g2, e, hc, num_set hp h1⟩
  · obtain ⟨g2, e, hc, h1⟩ := h.s z hz j hj
    exact ⟨g2, e, hc, num_set hp h1⟩
  · obtain ⟨g2, e, hc, h1⟩ := h.p z hz j hj
    exact ⟨g2, e, hc, num_set hp h1⟩
theorem WrO.below {W0 W W2 : World} {v : Value} {ys : List Oz} (h : WrO W0 v ys W) (hb : Below W.heap.size W W2) : WrO W0 v ys W2 := by
  have hn : ∀ {K p}, NumAt K W p → NumAt K W2 p := fun {K p} ⟨⟨x, hx⟩, hf⟩ => ⟨⟨x, (hb.cell (World.block_lt_of_cell? _ _ hx)).trans hx⟩, (hb.frozen (World.block_lt_of_cell? _ _ hx)).trans hf⟩
  have hs : ∀ {p a n c}, W.cell? p = some (.slice a n c) → W2.cell? p = some (.slice a n c) := fun {p a n c} hx => (hb.cell (World.block_lt_of_cell? _ _ hx)).trans hx
  refine ⟨h.off.below_r hb, fun j hj => ?_, fun z hz j hj => ?_, fun z hz j hj => ?_, fun z hz j hj => ?_⟩
  · obtain ⟨g2, c, e, h1, h2, h3, h4⟩ := h.row j hj
    exact ⟨g2, c, e, hs h1, hs h2, hs h3, hn h4⟩
  · obtain ⟨g2, e, hc, h1⟩ := h.r z hz j hj
    exact ⟨g2, e, hc, hn h1⟩
  · obtain ⟨g2, e, hc, h1⟩ := h.s z hz j hj
    exact ⟨g2, e, hc, hn h1⟩
  · obtain ⟨g2, e, hc, h1⟩ := h.p z hz j hj
    exact ⟨g2, e, hc, hn h1⟩
theorem own_cells {W : World} {B m n c : Nat} {e : TypeId} {a : Option Addr} {xs : List Value} (h : W.ownsRow B e m (.slice a n c) n xs) (h0 : 0 < n) : ∃ g, a = some ⟨g, 0, none⟩ ∧ n ≤ c ∧ ∀ o, W.frozen? ⟨g, o, none⟩ = false := by
  rcases h.2 with ⟨hv, hn⟩ | ⟨g, cap, cur, hv, hB, hh, hc, -⟩
  · omega
  · injection hv with e1 e2 e3
    subst e1 e3
    exact ⟨g, rfl, hc, fun o => by simp [World.frozen?, hh]⟩
theorem wr_start {F : Nat → Prop} {W : World} {v : Value} {ys : List Oz} (h : Oown F W v ys) : WrO W v ys W := by
  refine ⟨Off.refl _ _, fun j hj => ?_, fun z hz j hj => ?_, fun z hz j hj => ?_, fun z hz j hj => ?_⟩
  · obtain ⟨a, c, rfl, -, -⟩ := h.shape
    obtain ⟨g, rfl, -, hf⟩ := own_cells h.row (by omega)
    obtain ⟨b, off, e, -, -, -, -, hat⟩ := h.orow.row.ats (by omega)
    injection e with e
    injection e with e1 e2
    subst e1 e2
    obtain ⟨c0, c1, c2, c3, c4⟩ := hat j hj
    rw [Nat.zero_add] at c1 c2 c3 c4
    exact ⟨g, c, rfl, c2, c3, c4, ⟨_, c1⟩, hf _⟩
  · have ho := (h.own z hz).r
    obtain ⟨g, hg, hc, hf⟩ := own_cells ho (by omega)
    have hr := (Ints.of_owns ho).1
    obtain ⟨b, off, e, -, -, -, hat⟩ := hr.opened (by omega)
    have e2 : z.ra = some ⟨b, off, none⟩ := e
    rw [hg] at e2
    injection e2 with e2
    injection e2 with e3 e4
    subst e3 e4
    have := hat j hj
    rw [Nat.zero_add] at this
    exact ⟨g, hg, hc, ⟨_, this⟩, hf _⟩
  · have ho := (h.own z hz).s
    obtain ⟨g, hg, hc, hf⟩ := own_cells ho (by omega)
    obtain ⟨b, off, e, -, -, -, -, hat⟩ := Arow.opn (Row.of_owns (C := attC) ho).1 (by omega)
    rw [hg] at e
    injection e with e
    injection e with e3 e4
    subst e3 e4
    have := (hat j hj).1
    rw [Nat.zero_add] at this
    exact ⟨g, hg, hc, ⟨_, this⟩, hf _⟩
  · have ho := (h.own z hz).p
    obtain ⟨g, hg, hc, hf⟩ := own_cells ho (by omega)
    obtain ⟨b, off, e, -, -, -, -, hat⟩ := Crow.opn (Row.of_owns (C := chC) ho).1 (by omega)
    rw [hg] at e
    injection e with e
    injection e with e3 e4
    subst e3 e4
    have := (hat j hj).1
    rw [Nat.zero_add] at this
    exact ⟨g, hg, hc, ⟨_, this⟩, hf _⟩
theorem sb_own {F : Nat → Prop} {W : World} {v : Value} {ys : List Oz} (h : Oown F W v ys) {k : Nat} (hk : Sb v ys k) : F k := by
  rcases hk with hk | ⟨z, hz, hk⟩
  · exact h.f k hk
  · have ho := h.own z hz
    rcases hk with hk | hk | hk
    · exact ho.fr k hk
    · exact ho.fs k hk
    · exact ho.fp k hk
theorem sb_r {v : Value} {ys : List Oz} {z : Oz} (hz : z ∈ ys) {g : Nat} (h : z.ra = some ⟨g, 0, none⟩) : Sb v ys g := .inr ⟨z, hz, .inl (by simp [Oz.rv, h, Value.ownBlock])⟩
theorem sb_s {v : Value} {ys : List Oz} {z : Oz} (hz : z ∈ ys) {g : Nat} (h : z.sa = some ⟨g, 0, none⟩) : Sb v ys g := .inr ⟨z, hz, .inr (.inl (by simp [Oz.sv, h, Value.ownBlock]))⟩
theorem sb_p {v : Value} {ys : List Oz} {z : Oz} (hz : z ∈ ys) {g : Nat} (h : z.pa = some ⟨g, 0, none⟩) : Sb v ys g := .inr ⟨z, hz, .inr (.inr (by simp [Oz.pv, h, Value.ownBlock]))⟩
end Go.Proofs.Ytnggnfhaokkcmaa
