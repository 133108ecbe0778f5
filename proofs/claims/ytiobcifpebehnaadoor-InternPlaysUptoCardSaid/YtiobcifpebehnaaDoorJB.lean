
import Derived.Test.YtiobcifpebehnaaDoorI26
import Derived.Test.YtiobcifpebehnaaDoorA8
import Derived.Test.YtiobcifpebehnaaDoorA16
import Derived.Deep.RegionHeld3
import Derived.Maps.AppendAt
/- J3 -/
/- J3: the reference's table in memory, step by step -/
namespace Go.Proofs.YtiobcifpebehnaaDoor
open Go.RowKit
set_option linter.unusedVariables false

section
variable {w w' : World} {row : Option Nat} {base : Nat} {e eg : TypeId} {size : Nat} {v : Value} {n : Nat} {xs : List Value}
theorem own_tagne (hG : w.grownBy w' row) (hc : ∀ g, row = some g → ∃ cur, w.heap[g]? = some (.cells cur eg (0, 0))) (h : w.ownsRow base e size v n xs) (he : e ≠ eg) : w'.ownsRow base e size v n xs :=
  own_far hG h (fun g hg => by
    obtain ⟨cur, hcur⟩ := hc g hg
    exact ⟨_, hcur, fun c hcc => by injection hcc with _ hcc _; exact he hcc.symm⟩)
theorem own_blkne (hG : w.grownBy w' row) (h : w.ownsRow base e size v n xs) (hn : ∀ g, row = some g → v.ownBlock = some g → False) : w'.ownsRow base e size v n xs :=
  owns_kept h (fun g hg => hG.block g (own_lt7 h hg) (fun e => hn g e.symm hg))
theorem far_tagne (hG : w.grownBy w' row) (hc : ∀ g, row = some g → ∃ cur, w.heap[g]? = some (.cells cur eg (0, 0))) {k : Nat} {c : Array Value} (h : w.heap[k]? = some (.cells c e (0, 0))) (he : e ≠ eg) : w'.heap[k]? = some (.cells c e (0, 0)) :=
  far hG h (fun g hg => by
    obtain ⟨cur, hcur⟩ := hc g hg
    exact ⟨_, hcur, fun hcc => by injection hcc with _ hcc _; exact he hcc.symm⟩)
end

/-- The reference's table, whatever it is to mean: the places' sets are said where P holds. -/
structure RefMem (B : Nat) (U : Nat → Prop) (rb : Nat) (kv sv hv lv : Value) (V : List SV) (H L : List Nat) (E : Nat) (sets : Nat → List Att) (P : Nat → Prop) (w : World) : Prop where
  hst : w.heap[rb]? = some (.cells #[kv, sv, hv, lv, .int .i64 (E : Nat)] 36 (0, 0))
  hsv : w.ownsRow 0 37 1 sv V.length (fl svC V)
  hhv : w.ownsRow 0 3 1 hv H.length (fl natC H)
  hlv : w.ownsRow 0 3 1 lv L.length (fl natC L)
  hrow : ∀ (i : Nat) (x : SV), V[i]? = some x → P i → w.ownsRow 0 47 5 x.v (sets i).length (fl attC (sets i))
  ap : ∀ g, hv.ownBlock = some g → lv.ownBlock = some g → False
  sRb : U rb
  sSv : ∀ g, sv.ownBlock = some g → U g
  sHv : ∀ g, hv.ownBlock = some g → U g
  sLv : ∀ g, lv.ownBlock = some g → U g
  sRow : ∀ (i : Nat) (x : SV), V[i]? = some x → P i → ∀ g, x.v.ownBlock = some g → U g
  sB : ∀ k, U k → B ≤ k
  hB : B ≤ w.heap.size

section
variable {B : Nat} {U : Nat → Prop} {rb : Nat} {kv sv hv lv : Value} {V : List SV} {H L : List Nat} {E : Nat} {sets : Nat → List Att} {P : Nat → Prop} {w : World}
theorem RefMem.kept (h : RefMem B U rb kv sv hv lv V H L E sets P w) {w' : World} (hz : w.heap.size ≤ w'.heap.size) (hk : ∀ k, k < w.heap.size → U k → w'.heap[k]? = w.heap[k]?) : RefMem B U rb kv sv hv lv V H L E sets P w' := by
  have hw : ∀ {base : Nat} {e : TypeId} {size : Nat} {v : Value} {l : Nat} {xs : List Value}, w.ownsRow base e size v l xs → (∀ g, v.ownBlock = some g → U g) → w'.ownsRow base e size v l xs := fun ho hS =>
    owns_kept ho (fun g hg => hk g (own_lt7 ho hg) (hS g hg))
  exact ⟨(hk rb (lt_of_heap h.hst) h.sRb).trans h.hst, hw h.hsv h.sSv, hw h.hhv h.sHv, hw h.hlv h.sLv, fun i x hx hp => hw (h.hrow i x hx hp) (h.sRow i x hx hp), h.ap, h.sRb, h.sSv, h.sHv, h.sLv, h.sRow, h.sB, by have := h.hB; omega⟩
theorem RefMem.below (h : RefMem B U rb kv sv hv lv V H L E sets P w) {w' : World} (hb : Below w.heap.size w w') : RefMem B U rb kv sv hv lv V H L E sets P w' := h.kept hb.size (fun k hk _ => hb.block k hk)
theorem RefMem.mono (h : RefMem B U rb kv sv hv lv V H L E sets P w) {U' : Nat → Prop} (hU : ∀ k, U k → U' k) (hB : ∀ k, U' k → B ≤ k) : RefMem B U' rb kv sv hv lv V H L E sets P w :=
  ⟨h.hst, h.hsv, h.hhv, h.hlv, h.hrow, h.ap, hU _ h.sRb, fun g hg => hU _ (h.sSv g hg), fun g hg => hU _ (h.sHv g hg), fun g hg => hU _ (h.sLv g hg), fun i x hx hp g hg => hU _ (h.sRow i x hx hp g hg), hB, h.hB⟩
theorem RefMem.cut (h : RefMem B U rb kv sv hv lv V H L E sets P w) : RefMem B (fun k => U k ∧ k < w.heap.size) rb kv sv hv lv V H L E sets P w :=
  ⟨h.hst, h.hsv, h.hhv, h.hlv, h.hrow, h.ap, ⟨h.sRb, lt_of_heap h.hst⟩, fun g hg => ⟨h.sSv g hg, own_lt7 h.hsv hg⟩, fun g hg => ⟨h.sHv g hg, own_lt7 h.hhv hg⟩, fun g hg => ⟨h.sLv g hg, own_lt7 h.hlv hg⟩, fun i x hx hp g hg => ⟨h.sRow i x hx hp g hg, own_lt7 (h.hrow i x hx hp) hg⟩, fun k hk => h.sB k hk.1, h.hB⟩
theorem RefMem.cells (h : RefMem B U rb kv sv hv lv V H L E sets P w) : w.cell? ⟨rb, 0, none⟩ = some kv ∧ w.cell? ⟨rb, 1, none⟩ = some sv ∧ w.cell? ⟨rb, 2, none⟩ = some hv ∧ w.cell? ⟨rb, 3, none⟩ = some lv ∧ w.cell? ⟨rb, 4, none⟩ = some (.int .i64 (E : Nat)) := by
  refine ⟨?_, ?_, ?_, ?_, ?_⟩
  · rw [cell_of_row w rb 0 _ _ _ h.hst]; rfl
  · rw [cell_of_row w rb 1 _ _ _ h.hst]; rfl
  · rw [cell_of_row w rb 2 _ _ _ h.hst]; rfl
  · rw [cell_of_row w rb 3 _ _ _ h.hst]; rfl
  · rw [cell_of_row w rb 4 _ _ _ h.hst]; rfl
theorem RefMem.nofreeze (h : RefMem B U rb kv sv hv lv V H L E sets P w) (o : Nat) : w.frozen? ⟨rb, o, none⟩ = false := by simp [World.frozen?, h.hst]
theorem RefMem.shapes (h : RefMem B U rb kv sv hv lv V H L E sets P w) : (∃ a c, sv = .slice a V.length c) ∧ (∃ a c, hv = .slice a H.length c) ∧ ∃ a c, lv = .slice a L.length c :=
  ⟨(Row.of_owns (C := svC) h.hsv).1.shape, (Row.of_owns (C := natC) h.hhv).1.shape, (Row.of_owns (C := natC) h.hlv).1.shape⟩
/-- The number of the empty set. -/
theorem RefMem.setE (h : RefMem B U rb kv sv hv lv V H L E sets P w) (q : Nat) : RefMem B U rb kv sv hv lv V H L q sets P (w.setCell ⟨rb, 4, none⟩ (.int .i64 (q : Nat))) := by
  have hG := grown_set (w := w) (g := rb) (o := 4) (.int .i64 (q : Nat))
  have hc : ∀ g, some rb = some g → ∃ cur, w.heap[g]? = some (.cells cur 36 (0, 0)) := fun g hg => by cases hg; exact ⟨_, h.hst⟩
  exact ⟨by rw [heap_set _ h.hst]; rfl, own_tagne hG hc h.hsv (by decide), own_tagne hG hc h.hhv (by decide), own_tagne hG hc h.hlv (by decide), fun i x hx hp => own_tagne hG hc (h.hrow i x hx hp) (by decide), h.ap, h.sRb, h.sSv, h.sHv, h.sLv, h.sRow, h.sB, by have := h.hB; have := hG.size; omega⟩
theorem fl_nat_set (H : List Nat) (i q : Nat) : (fl natC H).set i (.int .i64 (q : Nat)) = fl natC (H.set i q) := by
  have e : ∀ X : List Nat, fl natC X = X.map fun i => Value.int .i64 (i : Nat) := fun X => by
    induction X with
    | nil => rfl
    | cons a r ih => rw [fl_cons, ih]; rfl
  rw [e, e, List.map_set]
theorem fl_sv_set (V : List SV) (i : Nat) (x : SV) : (fl svC V).set i x.v = fl svC (V.set i x) := by
  have e : ∀ X : List SV, fl svC X = X.map SV.v := fun X => by
    induction X with
    | nil => rfl
    | cons a r ih => rw [fl_cons, ih]; rfl
  rw [e, e, List.map_set]
/-- How often a place is held. -/
theorem RefMem.pokeH {g cap : Nat} (h : RefMem B U rb kv sv (.slice (some ⟨g, 0, none⟩) H.length cap) lv V H L E sets P w) (i q : Nat) :
    RefMem B U rb kv sv (.slice (some ⟨g, 0, none⟩) H.length cap) lv V (H.set i q) L E sets P (w.setCell ⟨g, i, none⟩ (.int .i64 (q : Nat))) := by
  obtain ⟨cur, hcur⟩ := own_tag h.hhv (g := g) rfl
  have hG := grown_set (w := w) (g := g) (o := i) (.int .i64 (q : Nat))
  have hc : ∀ g', some g = some g' → ∃ cur, w.heap[g']? = some (.cells cur 3 (0, 0)) := fun g' hg => by cases hg; exact ⟨_, hcur⟩
  refine ⟨far_tagne hG hc h.hst (by decide), own_tagne hG hc h.hsv (by decide), ?_, own_blkne hG h.hlv (fun g' e1 e2 => h.ap g' (by cases e1; rfl) e2), fun j x hx hp => own_tagne hG hc (h.hrow j x hx hp) (by decide), h.ap, h.sRb, h.sSv, h.sHv, h.sLv, h.sRow, h.sB, by have := h.hB; have := hG.size; omega⟩
  rw [List.length_set, ← fl_nat_set]
  exact owns_set h.hhv _
/-- A place's set. -/
theorem RefMem.putsV {g cap : Nat} (h : RefMem B U rb kv (.slice (some ⟨g, 0, none⟩) V.length cap) hv lv V H L E sets P w) (i : Nat) {x : SV} {X : List Att} (ho : w.ownsRow 0 47 5 x.v X.length (fl attC X)) (hS : ∀ g, x.v.ownBlock = some g → U g) :
    RefMem B U rb kv (.slice (some ⟨g, 0, none⟩) V.length cap) hv lv (V.set i x) H L E (fun j => if j = i then X else sets j) (fun j => j = i ∨ P j) (w.setCell ⟨g, i, none⟩ x.v) := by
  obtain ⟨cur, hcur⟩ := own_tag h.hsv (g := g) rfl
  have hG := grown_set (w := w) (g := g) (o := i) x.v
  have hc : ∀ g', some g = some g' → ∃ cur, w.heap[g']? = some (.cells cur 37 (0, 0)) := fun g' hg => by cases hg; exact ⟨_, hcur⟩
  have key : ∀ (j : Nat) (y : SV), (V.set i x)[j]? = some y → (j = i ∧ y = x) ∨ (j ≠ i ∧ V[j]? = some y) := fun j y hy => by
    rw [List.getElem?_set] at hy
    split at hy
    · rename_i hij
      split at hy
      · cases hy; exact .inl ⟨hij.symm, rfl⟩
      · cases hy
    · rename_i hij
      exact .inr ⟨fun e => hij e.symm, hy⟩
  refine ⟨far_tagne hG hc h.hst (by decide), ?_, own_tagne hG hc h.hhv (by decide), own_tagne hG hc h.hlv (by decide), fun j y hy hp => ?_, h.ap, h.sRb, h.sSv, h.sHv, h.sLv, fun j y hy hp => ?_, h.sB, by have := h.hB; have := hG.size; omega⟩
  · rw [List.length_set, ← fl_sv_set]
    exact owns_set h.hsv _
  · rcases key j y hy with ⟨rfl, rfl⟩ | ⟨hne, hy2⟩
    · rw [if_pos rfl]; exact own_tagne hG hc ho (by decide)
    · rw [if_neg hne]; exact own_tagne hG hc (h.hrow j y hy2 (hp.resolve_left hne)) (by decide)
  · rcases key j y hy with ⟨rfl, rfl⟩ | ⟨hne, hy2⟩
    · exact hS
    · exact h.sRow j y hy2 (hp.resolve_left hne)
/-- The row of sets turns. -/
theorem RefMem.reS (h : RefMem B U rb kv sv hv lv V H L E sets P w) {w1 : World} {sv' : Value} {V' : List SV} {P' : Nat → Prop} (hG : w.grownBy w1 sv.ownBlock) (ho : w1.ownsRow 0 37 1 sv' V'.length (fl svC V')) (hS : ∀ g, sv'.ownBlock = some g → U g)
    (hn : ∀ (i : Nat) (x : SV), V'[i]? = some x → P' i → V[i]? = some x ∧ P i) : RefMem B U rb kv sv' hv lv V' H L E sets P' (w1.setCell ⟨rb, 1, none⟩ sv') := by
  have hc : ∀ g, sv.ownBlock = some g → ∃ cur, w.heap[g]? = some (.cells cur 37 (0, 0)) := fun g hg => own_tag h.hsv hg
  have hst1 := far_tagne hG hc h.hst (by decide)
  have hG2 := grown_set (w := w1) (g := rb) (o := 1) sv'
  have hc2 : ∀ g, some rb = some g → ∃ cur, w1.heap[g]? = some (.cells cur 36 (0, 0)) := fun g hg => by cases hg; exact ⟨_, hst1⟩
  exact ⟨by rw [heap_set _ hst1]; rfl, own_tagne hG2 hc2 ho (by decide), own_tagne hG2 hc2 (own_tagne hG hc h.hhv (by decide)) (by decide), own_tagne hG2 hc2 (own_tagne hG hc h.hlv (by decide)) (by decide),
    fun i x hx hp => own_tagne hG2 hc2 (own_tagne hG hc (h.hrow i x (hn i x hx hp).1 (hn i x hx hp).2) (by decide)) (by decide), h.ap, h.sRb, hS, h.sHv, h.sLv, fun i x hx hp => h.sRow i x (hn i x hx hp).1 (hn i x hx hp).2, h.sB, by have := h.hB; have := hG.size; have := hG2.size; omega⟩
/-- The row of numbers turns. -/
theorem RefMem.reH (h : RefMem B U rb kv sv hv lv V H L E sets P w) {w1 : World} {hv' : Value} {H' : List Nat} (hG : w.grownBy w1 hv.ownBlock) (ho : w1.ownsRow 0 3 1 hv' H'.length (fl natC H')) (hS : ∀ g, hv'.ownBlock = some g → U g) (hN : ∀ g, hv'.ownBlock = some g → hv.ownBlock = some g ∨ w.heap.size ≤ g) :
    RefMem B U rb kv sv hv' lv V H' L E sets P (w1.setCell ⟨rb, 2, none⟩ hv') := by
  have hc : ∀ g, hv.ownBlock = some g → ∃ cur, w.heap[g]? = some (.cells cur 3 (0, 0)) := fun g hg => own_tag h.hhv hg
  have hst1 := far_tagne hG hc h.hst (by decide)
  have hG2 := grown_set (w := w1) (g := rb) (o := 2) hv'
  have hc2 : ∀ g, some rb = some g → ∃ cur, w1.heap[g]? = some (.cells cur 36 (0, 0)) := fun g hg => by cases hg; exact ⟨_, hst1⟩
  exact ⟨by rw [heap_set _ hst1]; rfl, own_tagne hG2 hc2 (own_tagne hG hc h.hsv (by decide)) (by decide), own_tagne hG2 hc2 ho (by decide), own_tagne hG2 hc2 (own_blkne hG h.hlv (fun g e1 e2 => h.ap g e1 e2)) (by decide),
    fun i x hx hp => own_tagne hG2 hc2 (own_tagne hG hc (h.hrow i x hx hp) (by decide)) (by decide), fun g e1 e2 => (by
      rcases hN g e1 with e | e
      · exact h.ap g e e2
      · have := own_lt7 h.hlv e2; omega), h.sRb, h.sSv, hS, h.sLv, h.sRow, h.sB, by have := h.hB; have := hG.size; have := hG2.size; omega⟩
/-- The row of free places turns. -/
theorem RefMem.reL (h : RefMem B U rb kv sv hv lv V H L E sets P w) {w1 : World} {row : Option Nat} {lv' : Value} {L' : List Nat} (hrow : row = lv.ownBlock ∨ row = none) (hG : w.grownBy w1 row) (ho : w1.ownsRow 0 3 1 lv' L'.length (fl natC L')) (hS : ∀ g, lv'.ownBlock = some g → U g) (hN : ∀ g, hv.ownBlock = some g → lv'.ownBlock = some g → False) :
    RefMem B U rb kv sv hv lv' V H L' E sets P (w1.setCell ⟨rb, 3, none⟩ lv') := by
  have hc : ∀ g, row = some g → ∃ cur, w.heap[g]? = some (.cells cur 3 (0, 0)) := fun g hg => by
    rcases hrow with e | e
    · exact own_tag h.hlv (e ▸ hg)
    · rw [e] at hg; cases hg
  have hst1 := far_tagne hG hc h.hst (by decide)
  have hG2 := grown_set (w := w1) (g := rb) (o := 3) lv'
  have hc2 : ∀ g, some rb = some g → ∃ cur, w1.heap[g]? = some (.cells cur 36 (0, 0)) := fun g hg => by cases hg; exact ⟨_, hst1⟩
  exact ⟨by rw [heap_set _ hst1]; rfl, own_tagne hG2 hc2 (own_tagne hG hc h.hsv (by decide)) (by decide), own_tagne hG2 hc2 (own_blkne hG h.hhv (fun g e1 e2 => by
      rcases hrow with e | e
      · exact h.ap g e2 (e ▸ e1)
      · rw [e] at e1; cases e1)) (by decide), own_tagne hG2 hc2 ho (by decide),
    fun i x hx hp => own_tagne hG2 hc2 (own_tagne hG hc (h.hrow i x hx hp) (by decide)) (by decide), hN, h.sRb, h.sSv, h.sHv, hS, h.sRow, h.sB, by have := h.hB; have := hG.size; have := hG2.size; omega⟩
end
end Go.Proofs.YtiobcifpebehnaaDoor

/- J4 -/
/- J4: the reference's Has, Find, Hold -/
namespace Go.Proofs.YtiobcifpebehnaaDoor
open Go.RowKit
set_option linter.unusedVariables false

/-- What the reference's lists mean. -/
structure RefT (T : TabS) (V : List SV) (H L : List Nat) (E : Nat) : Prop where
  vl : V.length = H.length
  hl : T.es.length = H.length + 1
  hn : ∀ (i : Nat) (x : Nat), H[i]? = some x → x = T.times (i + 1)
  fr : T.free = L.map (· + 1)
  em : E = T.times 0
def RefR (B : Nat) (U : Nat → Prop) (rb : Nat) (kv : Value) (T : TabS) (w : World) : Prop := ∃ sv hv lv V H L E, RefMem B U rb kv sv hv lv V H L E (fun i => T.set (i + 1)) (fun i => T.live (i + 1)) w ∧ RefT T V H L E
theorem RefT.at {T : TabS} {V : List SV} {H L : List Nat} {E : Nat} (h : RefT T V H L E) {i : Nat} (hi : i < H.length) : H[i] = T.times (i + 1) := h.hn i _ (List.getElem?_eq_getElem hi)

section
variable {B : Nat} {U : Nat → Prop} {rb : Nat} {kv : Value} {T : TabS} {n : Nat}
set_option maxHeartbeats 1000000 in
theorem rhas7 (id : Int) (w : World) (h : RefR B U rb kv T w) (hle : T.Le n) (hn : n ≤ 1000000) :
    Calls Tryd.prog 13 #[.pointer (some ⟨rb, 0, none⟩), .int .i64 id] w fun e w' => e = .returned (.bool (T.has id)) ∧ w' = w := by
  obtain ⟨sv, hv, lv, V, H, L, E, h, hT⟩ := h
  obtain ⟨-, -, c2, -, -⟩ := h.cells
  obtain ⟨-, ⟨ha, hc, rfl⟩, -⟩ := h.shapes
  have hes := hle.es
  have hhl := hT.hl
  by_cases h0 : id = 0
  · subst h0
    have e : T.has 0 = true := by simp [TabS.has]
    rw [e]
    clear h hT
    go_enter Tryd.func13, Tryd.ntmps13
    go_wp2
    go_ret
    exact ⟨rfl, rfl⟩
  · have e0 : (id == 0) = false := by simpa using h0
    by_cases h1 : 0 < id
    · have e1 : decide (0 < id) = true := by simpa using h1
      by_cases h2 : id ≤ (H.length : Int)
      · have e2 : decide (id ≤ (H.length : Int)) = true := by simpa using h2
        obtain ⟨j, rfl⟩ : ∃ j : Nat, id = (j : Int) + 1 := ⟨(id - 1).toNat, by omega⟩
        have hj : j < H.length := by omega
        obtain ⟨b, off, rfl, q1, q2, hat⟩ := nat_at (Row.of_owns (C := natC) h.hhv).1 (by omega)
        have cj := hat j hj
        rw [hT.at hj] at cj
        have e3 : decide (0 < T.times (j + 1)) = T.has ((j : Int) + 1) := by
          unfold TabS.has
          rw [show ((j : Int) + 1).toNat = j + 1 by omega]
          by_cases hp : 0 < T.times (j + 1)
          · rw [decide_eq_true hp, decide_eq_true (.inr ⟨by omega, by omega, hp⟩)]
          · rw [decide_eq_false hp, decide_eq_false (by omega)]
        generalize T.times (j + 1) = q at *
        generalize T.has ((j : Int) + 1) = r at *
        clear h hT hat
        go_enter Tryd.func13, Tryd.ntmps13
        go_wp2
        go_ret
        exact ⟨rfl, rfl⟩
      · have e2 : decide (id ≤ (H.length : Int)) = false := by simpa using h2
        have e : T.has id = false := by unfold TabS.has; rw [decide_eq_false_iff_not]; omega
        rw [e]
        clear h hT
        go_enter Tryd.func13, Tryd.ntmps13
        go_wp2
        go_ret
        exact ⟨rfl, rfl⟩
    · have e1 : decide (0 < id) = false := by simpa using h1
      have e : T.has id = false := by unfold TabS.has; rw [decide_eq_false_iff_not]; omega
      rw [e]
      clear h hT
      go_enter Tryd.func13, Tryd.ntmps13
      go_wp2
      go_ret
      exact ⟨rfl, rfl⟩
/-- One place, as Find reads it. -/
theorem rref_place {lv : Value} {V : List SV} {H L : List Nat} {E : Nat} {w : World} {sa ha : Option Addr} {sn sc hn_ hc : Nat} (h : RefMem B U rb kv (.slice sa sn sc) (.slice ha hn_ hc) lv V H L E (fun i => T.set (i + 1)) (fun i => T.live (i + 1)) w) (hT : RefT T V H L E) {i : Nat} (hi : i < H.length) :
    ∃ sb so hb ho, sa = some ⟨sb, so, none⟩ ∧ ha = some ⟨hb, ho, none⟩ ∧ H.length ≤ sc ∧ sc ≤ maxLen ∧ H.length ≤ hc ∧ hc ≤ maxLen ∧ w.cell? ⟨hb, ho + i, none⟩ = some (.int .i64 (T.times (i + 1) : Nat)) ∧
      (0 < T.times (i + 1) → ∃ a c, w.cell? ⟨sb, so + i, none⟩ = some (.slice a (T.set (i + 1)).length c) ∧ Arow w (.slice a (T.set (i + 1)).length c) (T.set (i + 1))) := by
  have hiV : i < V.length := by rw [hT.vl]; exact hi
  obtain ⟨hb, ho, e1, e2, e3, e4⟩ := nat_at (Row.of_owns (C := natC) h.hhv).1 (by omega)
  obtain ⟨sb, so, f1, f2, f3, f4⟩ := sv_at (Row.of_owns (C := svC) h.hsv).1 (by omega)
  have c1 := e4 i hi
  rw [hT.at hi] at c1
  refine ⟨sb, so, hb, ho, f1, e1, by rw [← hT.vl]; exact f2, f3, e2, e3, c1, fun hp => ?_⟩
  have hl : T.live (i + 1) := .inr ⟨by have := hT.hl; omega, hp⟩
  have hr := (Row.of_owns (C := attC) (h.hrow i _ (List.getElem?_eq_getElem hiV) hl)).1
  have c2 := f4 i hiV
  obtain ⟨a, c, e⟩ := hr.shape
  rw [e] at hr c2
  exact ⟨a, c, c2, hr⟩
/-- What Find answers: a place, one less than the id; else -1. -/
@[reducible] def rfndI (o : Option Nat) : Int := match o with
  | some i => (i : Int) - 1
  | none => -1
set_option maxHeartbeats 2000000 in
theorem rfind7 (v : Value) (X : List Att) (w : World) (h : RefR B U rb kv T w) (hv : Arow w v X) (hX : X ≠ []) (hok : T.Ok) (hle : T.Le n) (hn : n ≤ 1000000) :
    Calls Tryd.prog 35 #[.pointer (some ⟨rb, 0, none⟩), v] w fun e w' => e = .returned (.int .i64 (rfndI (T.look X))) ∧ Below w.heap.size w w' := by
  obtain ⟨sv, hv', lv, V, H, L, E, h, hT⟩ := h
  have hes := hle.es
  have hhl := hT.hl
  have hvl := hT.vl
  have hvlen := hv.len
  obtain ⟨va, vc, rfl⟩ := hv.shape
  obtain ⟨⟨sa, sc, rfl⟩, ⟨ha, hc, rfl⟩, -⟩ := h.shapes
  have HR := Lib.hid (fun (wr : World) (hb : Below w.heap.size w wr) => (h.below hb))
  have HV := Lib.hid (fun (wr : World) (hb : Below w.heap.size w wr) => (hv.below hb (Nat.le_refl _)))
  have HT := Lib.hid hT
  have HO := Lib.hid hok
  obtain ⟨c0, c1, c2, -, -⟩ := h.cells
  clear h hv hT hok
  go_enter Tryd.func35, Tryd.ntmps35
  go_wp2
  go_loopw [5] (fun s5 wr => ∃ i : Nat, i ≤ H.length ∧ s5 = .int .i64 i ∧ Below w.heap.size w wr ∧ ∀ j, j < i → T.live (j + 1) → T.set (j + 1) ≠ X) (fun s5 _ => H.length - (intOf s5).toNat)
  case atStart => exact ⟨0, Nat.zero_le _, rfl, Below.refl _ _, fun j hj => absurd hj (Nat.not_lt_zero _)⟩
  case round =>
    obtain ⟨i, hi, rfl, hb, hno⟩ := hrel
    obtain ⟨k0, k1, k2, -, -⟩ := (HR.out wr hb).cells
    have HB := Lib.hid hb
    have HNO := Lib.hid hno
    clear hno
    by_cases hlt : i < H.length
    · obtain ⟨sb, so, hb2, ho, rfl, rfl, q1, q2, q3, q4, ci, hset⟩ := rref_place (HR.out wr hb) HT.out hlt
      have g1 : decide ((i : Int) < (V.length : Int)) = true := by rw [decide_eq_true_iff]; omega
      by_cases hp : 0 < T.times (i + 1)
      · obtain ⟨a, c, cs, hrow⟩ := hset hp
        have hl : T.live (i + 1) := .inr ⟨by omega, hp⟩
        have HL := Lib.hid hl
        have hSM := rsame_any5 _ _ (T.set (i + 1)) X wr hrow (HV.out wr hb)
        by_cases he : T.set (i + 1) = X
        · have hlk : T.look X = some (i + 1) := by rw [← he]; exact look_live HO.out hl
          rw [decide_eq_true he] at hSM
          have HSM := Lib.hid hSM
          have hfin : rfndI (T.look X) = (i : Int) := by rw [hlk]; show ((i + 1 : Nat) : Int) - 1 = _; omega
          have HFIN := Lib.hid hfin
          generalize T.times (i + 1) = q at *
          generalize T.set (i + 1) = Y at *
          clear hb hset hrow hl hSM hlk hfin he
          go_wp2_with (go_at_call 25; refine HSM.out.mono ?_; rintro e w5 ⟨rfl, p, rfl⟩)
          go_ret
          exact ⟨by rw [HFIN.out]; rfl, below_add HB.out (below_drewN wr p) HB.out.size⟩
        · rw [decide_eq_false he] at hSM
          have HSM := Lib.hid hSM
          have hno2 : ∀ j, j < i + 1 → T.live (j + 1) → T.set (j + 1) ≠ X := fun j hj hlj => by
            by_cases e : j = i
            · rw [e]; exact he
            · exact HNO.out j (by omega) hlj
          have HN2 := Lib.hid hno2
          generalize T.times (i + 1) = q at *
          generalize T.set (i + 1) = Y at *
          clear hb hset hrow hl hSM he hno2
          go_wp2_with (go_at_call 25; refine HSM.out.mono ?_; rintro e w5 ⟨rfl, p, rfl⟩)
          go_roundw
          case rel => exact ⟨i + 1, by omega, by go_num, below_add HB.out (below_drewN wr p) HB.out.size, HN2.out⟩
          case measure => simp [intOf]; omega
      · have g2 : T.times (i + 1) = 0 := by omega
        rw [g2] at ci
        have hno2 : ∀ j, j < i + 1 → T.live (j + 1) → T.set (j + 1) ≠ X := fun j hj hlj => by
          by_cases e : j = i
          · rw [e] at hlj
            rcases hlj with e | ⟨-, e⟩
            · omega
            · omega
          · exact HNO.out j (by omega) hlj
        have HN2 := Lib.hid hno2
        clear hb hset hno2 hp g2
        go_wp2
        go_roundw
        case rel => exact ⟨i + 1, by omega, by go_num, HB.out, HN2.out⟩
        case measure => simp [intOf]; omega
    · obtain rfl : i = H.length := by omega
      have g1 : decide ((H.length : Int) < (V.length : Int)) = false := by rw [decide_eq_false_iff_not]; omega
      have hlk : T.look X = none := by
        cases hf : T.look X with
        | none => rfl
        | some k =>
          obtain ⟨l1, l2, l3⟩ := look_some hf
          exfalso
          cases k with
          | zero => exact hX (by rw [← l2, HO.out.zero])
          | succ k => exact HNO.out k (by omega) l1 l2
      have HLK := Lib.hid hlk
      clear hb hlt hlk
      go_wp2
      go_ret
      exact ⟨by rw [HLK.out]; rfl, HB.out⟩
end
end Go.Proofs.YtiobcifpebehnaaDoor

/- J5 -/
/- J5: the reference's Hold and Free -/
namespace Go.Proofs.YtiobcifpebehnaaDoor
open Go.RowKit
set_option linter.unusedVariables false

section
variable {B : Nat} {U : Nat → Prop} {rb : Nat} {kv sv hv lv : Value} {V : List SV} {H L : List Nat} {E : Nat} {sets : Nat → List Att} {P : Nat → Prop} {w : World}
theorem RefMem.conv (h : RefMem B U rb kv sv hv lv V H L E sets P w) {sets' : Nat → List Att} {P' : Nat → Prop} (hs : ∀ i, i < V.length → P' i → P i ∧ sets' i = sets i) : RefMem B U rb kv sv hv lv V H L E sets' P' w :=
  ⟨h.hst, h.hsv, h.hhv, h.hlv, fun i x hx hp => by
    obtain ⟨p, e⟩ := hs i (List.getElem?_eq_some_iff.1 hx).1 hp
    rw [e]; exact h.hrow i x hx p, h.ap, h.sRb, h.sSv, h.sHv, h.sLv, fun i x hx hp => h.sRow i x hx (hs i (List.getElem?_eq_some_iff.1 hx).1 hp).1, h.sB, h.hB⟩
theorem RefMem.formH (h : RefMem B U rb kv sv hv lv V H L E sets P w) (h0 : 0 < H.length) : ∃ g cap, hv = .slice (some ⟨g, 0, none⟩) H.length cap ∧ H.length ≤ cap ∧ cap ≤ maxLen ∧ (∀ j (hj : j < H.length), w.cell? ⟨g, j, none⟩ = some (.int .i64 (H[j] : Nat))) ∧ ∀ o, w.frozen? ⟨g, o, none⟩ = false := by
  obtain ⟨g, cap, rfl, -, hg⟩ := h.hhv.form h0
  obtain ⟨b, off, e1, e2, e3, e4⟩ := nat_at (Row.of_owns (C := natC) h.hhv).1 h0
  injection e1 with e1
  injection e1 with e5 e6
  subst e5 e6
  refine ⟨g, cap, rfl, e2, e3, fun j hj => ?_, fun o => ?_⟩
  · have := e4 j hj; rwa [Nat.zero_add] at this
  · obtain ⟨cur, hc⟩ := own_tag h.hhv (g := g) rfl
    simp [World.frozen?, hc]
end

section
variable {B : Nat} {U : Nat → Prop} {rb : Nat} {kv : Value} {T : TabS} {n : Nat}
theorem upd_ref {V : List SV} {H L : List Nat} {E : Nat} (hT : RefT T V H L E) {j q : Nat} (hj : j < H.length) : RefT (T.upd (j + 1) ⟨T.set (j + 1), q⟩) V (H.set j q) L E := by
  have hh := hT.hl
  refine ⟨by rw [List.length_set]; exact hT.vl, by rw [List.length_set]; simpa [TabS.upd] using hT.hl, fun i x hx => ?_, hT.fr, ?_⟩
  · rw [times_upd]
    rw [List.getElem?_set] at hx
    split at hx
    · rename_i e
      subst e
      rw [if_pos ⟨rfl, by omega⟩]
      exact (Option.some.inj hx).symm
    · rename_i e
      rw [if_neg (fun hc => e (by omega))]
      exact hT.hn i x hx
  · rw [times_upd, if_neg (fun hc => by omega)]
    exact hT.em
theorem upd_ref0 {V : List SV} {H L : List Nat} {E : Nat} (hT : RefT T V H L E) (q : Nat) : RefT (T.upd 0 ⟨T.set 0, q⟩) V H L q := by
  have hh := hT.hl
  refine ⟨hT.vl, by simpa [TabS.upd] using hT.hl, fun i x hx => ?_, hT.fr, ?_⟩
  · rw [times_upd, if_neg (fun hc => by omega)]
    exact hT.hn i x hx
  · rw [times_upd, if_pos ⟨rfl, by omega⟩]
/-- The sets, as a number of a live id turns. -/
theorem upd_sets (hok : T.Ok) {i q : Nat} (hl : T.live i) (hq : i = 0 ∨ 0 < q) : ∀ j, (T.upd i ⟨T.set i, q⟩).live (j + 1) → T.live (j + 1) ∧ (T.upd i ⟨T.set i, q⟩).set (j + 1) = T.set (j + 1) := fun j hj =>
  ⟨((ok_upd hok hl hq).2.1 _).1 hj, (ok_upd hok hl hq).2.2 _⟩

set_option maxHeartbeats 1000000 in
/-- The number of a live id goes up. -/
theorem rhold7 {i : Nat} (w : World) (h : RefR B U rb kv T w) (hl : T.live i) (hok : T.Ok) (hle : T.Le n) (hn : n ≤ 1000000) :
    Calls Tryd.prog 19 #[.pointer (some ⟨rb, 0, none⟩), .int .i64 (i : Nat)] w fun e w' => e = .returned (.tuple #[]) ∧ RefR B U rb kv (T.bump i) w' ∧ Off U w w' := by
  obtain ⟨sv, hv, lv, V, H, L, E, h, hT⟩ := h
  obtain ⟨-, -, c2, -, c4⟩ := h.cells
  have f4 := h.nofreeze 4
  have hq : T.times i ≤ 1000000 := Nat.le_trans (hle.times i) hn
  have hb : T.bump i = T.upd i ⟨T.set i, T.times i + 1⟩ := rfl
  have hes := hle.es
  rw [hb]
  cases i with
  | zero =>
    have M := Lib.hid ((h.setE (T.times 0 + 1)).conv (fun j _ hj => upd_sets hok (q := T.times 0 + 1) hl (.inl rfl) j hj))
    have R := Lib.hid (upd_ref0 hT (T.times 0 + 1))
    have O := Lib.hid (Off.of_grown (S := U) (grown_set (w := w) (g := rb) (o := 4) (.int .i64 ((T.times 0 + 1 : Nat) : Int))) (fun g' hg' => by cases hg'; exact h.sRb))
    have hE := hT.em
    subst hE
    generalize T.times 0 = q at *
    clear h hT
    go_enter Tryd.func19, Tryd.ntmps19
    go_wp2
    go_end0
    exact ⟨rfl, ⟨_, _, _, _, _, _, _, M.out, R.out⟩, O.out⟩
  | succ j =>
    have hj : j < H.length := by have := live_lt hl hok.pos; have := hT.hl; omega
    obtain ⟨g, cap, rfl, q1, q2, q3, q4⟩ := h.formH (by omega)
    have cj := q3 j hj
    rw [hT.at hj] at cj
    have fj := q4 j
    have hsH := h.sHv g rfl
    have M := Lib.hid ((h.pokeH j (T.times (j + 1) + 1)).conv (fun k _ hk => upd_sets hok (q := T.times (j + 1) + 1) hl (.inr (Nat.succ_pos _)) k hk))
    have R := Lib.hid (upd_ref hT (q := T.times (j + 1) + 1) hj)
    have O := Lib.hid (Off.of_grown (S := U) (grown_set (w := w) (g := g) (o := j) (.int .i64 ((T.times (j + 1) + 1 : Nat) : Int))) (fun g' hg' => by cases hg'; exact hsH))
    have hhl := hT.hl
    have ei : ((j + 1 : Nat) : Int) = (j : Int) + 1 := by omega
    have e0 : (((j : Int) + 1) == 0) = false := by simp; omega
    rw [ei]
    generalize T.times (j + 1) = q at *
    clear h hT q3 q4
    go_enter Tryd.func19, Tryd.ntmps19
    go_wp2
    go_end0
    exact ⟨rfl, ⟨_, _, _, _, _, _, _, M.out, R.out⟩, O.out⟩
theorem out_ref {V : List SV} {H L : List Nat} {E : Nat} (hT : RefT T V H L E) {j : Nat} (hj : j < H.length) : RefT (T.out (j + 1)) V (H.set j 0) (L ++ [j]) E := by
  have hh := hT.hl
  refine ⟨by rw [List.length_set]; exact hT.vl, by rw [List.length_set]; simpa [TabS.out] using hT.hl, fun i x hx => ?_, ?_, ?_⟩
  · rw [times_out]
    rw [List.getElem?_set] at hx
    split at hx
    · rename_i e
      subst e
      rw [if_pos rfl]
      exact (Option.some.inj hx).symm
    · rename_i e
      rw [if_neg (fun hc => e (by omega))]
      exact hT.hn i x hx
  · show T.free ++ [j + 1] = _
    rw [hT.fr]
    simp
  · rw [times_out, if_neg (by omega)]
    exact hT.em
theorem RefR.mono {w : World} (h : RefR B U rb kv T w) {U' : Nat → Prop} (hU : ∀ k, U k → U' k) (hB : ∀ k, U' k → B ≤ k) : RefR B U' rb kv T w := by
  obtain ⟨sv, hv, lv, V, H, L, E, h, hT⟩ := h
  exact ⟨sv, hv, lv, V, H, L, E, h.mono hU hB, hT⟩
theorem RefR.below {w w' : World} (h : RefR B U rb kv T w) (hb : Below w.heap.size w w') : RefR B U rb kv T w' := by
  obtain ⟨sv, hv, lv, V, H, L, E, h, hT⟩ := h
  exact ⟨sv, hv, lv, V, H, L, E, h.below hb, hT⟩
theorem RefR.sB {w : World} (h : RefR B U rb kv T w) : ∀ k, U k → B ≤ k := by obtain ⟨sv, hv, lv, V, H, L, E, h, hT⟩ := h; exact h.sB
theorem RefR.hB {w : World} (h : RefR B U rb kv T w) : B ≤ w.heap.size := by obtain ⟨sv, hv, lv, V, H, L, E, h, hT⟩ := h; exact h.hB
theorem RefR.cut {w : World} (h : RefR B U rb kv T w) : RefR B (fun k => U k ∧ k < w.heap.size) rb kv T w := by
  obtain ⟨sv, hv, lv, V, H, L, E, h, hT⟩ := h
  exact ⟨sv, hv, lv, V, H, L, E, h.cut, hT⟩
theorem RefR.grow {w w' : World} (h : RefR B U rb kv T w) (hw : B ≤ w'.heap.size) : RefR B (fun k => U k ∨ w'.heap.size ≤ k) rb kv T w :=
  h.mono (fun k hk => .inl hk) (fun k hk => by rcases hk with hk | hk; exact h.sB k hk; omega)

set_option maxRecDepth 100000 in
set_option maxHeartbeats 1000000 in
/-- The number of a live id goes down; at none its place is free. -/
theorem rfree7 {i : Nat} (w : World) (h : RefR B U rb kv T w) (hl : T.live i) (hok : T.Ok) (hle : T.Le n) (hn : n ≤ 1000000) :
    Calls Tryd.prog 17 #[.pointer (some ⟨rb, 0, none⟩), .int .i64 (i : Nat)] w fun e w' => e = .returned (.tuple #[]) ∧ RefR B (fun k => U k ∨ w.heap.size ≤ k) rb kv (T.less i) w' ∧ Off U w w' := by
  have hBw := h.hB
  obtain ⟨sv, hv, lv, V, H, L, E, h, hT⟩ := h
  obtain ⟨-, -, c2, c3, c4⟩ := h.cells
  have f4 := h.nofreeze 4
  have hq : T.times i ≤ 1000000 := Nat.le_trans (hle.times i) hn
  have hes := hle.es
  have fin : ∀ {T' : TabS} {w' : World}, RefR B U rb kv T' w' → Off U w w' → RefR B (fun k => U k ∨ w.heap.size ≤ k) rb kv T' w' ∧ Off U w w' := fun h1 h2 => ⟨h1.grow hBw, h2⟩
  cases i with
  | zero =>
    rw [less_upd (by simp)]
    by_cases hz : T.times 0 = 0
    · have M := Lib.hid (h.conv (fun j _ hj => upd_sets hok (q := T.times 0 - 1) hl (.inl rfl) j hj))
      have R := Lib.hid (upd_ref0 hT (T.times 0 - 1))
      have hE := hT.em
      subst hE
      have FIN := Lib.hid (fin (⟨_, _, _, _, _, _, _, M.out, by have := R.out; rw [hz] at this ⊢; exact this⟩ : RefR B U rb kv (T.upd 0 ⟨T.set 0, T.times 0 - 1⟩) w) (Off.refl _ _))
      rw [hz] at c4
      clear h hT fin M R
      go_enter Tryd.func17, Tryd.ntmps17
      go_wp2
      first | go_end0 | refine bodyPost_ret (results_none rfl _ _ _) rfl ?_
      exact ⟨rfl, FIN.out⟩
    · have M := Lib.hid ((h.setE (T.times 0 - 1)).conv (fun j _ hj => upd_sets hok (q := T.times 0 - 1) hl (.inl rfl) j hj))
      have R := Lib.hid (upd_ref0 hT (T.times 0 - 1))
      have O := Lib.hid (Off.of_grown (S := U) (grown_set (w := w) (g := rb) (o := 4) (.int .i64 ((T.times 0 - 1 : Nat) : Int))) (fun g' hg' => by cases hg'; exact h.sRb))
      have FIN := Lib.hid (fin ⟨_, _, _, _, _, _, _, M.out, R.out⟩ O.out)
      have hE := hT.em
      subst hE
      obtain ⟨q, hqq⟩ : ∃ q, T.times 0 = q + 1 := ⟨T.times 0 - 1, by omega⟩
      rw [hqq] at c4 FIN hq
      rw [hqq]
      have ec : ((q + 1 : Nat) : Int) = (q : Int) + 1 := by omega
      rw [ec] at c4
      have eq1 : q + 1 - 1 = q := rfl
      rw [eq1] at FIN
      rw [eq1]
      clear h hT fin M R O hz hqq
      go_enter Tryd.func17, Tryd.ntmps17
      go_wp2
      first | go_end0 | refine bodyPost_ret (results_none rfl _ _ _) rfl ?_
      exact ⟨rfl, FIN.out⟩
  | succ j =>
    have hj : j < H.length := by have := live_lt hl hok.pos; have := hT.hl; omega
    obtain ⟨q, hqq⟩ : ∃ q, T.times (j + 1) = q + 1 := ⟨T.times (j + 1) - 1, by rcases hl with e | ⟨-, e⟩ <;> omega⟩
    obtain ⟨g, cap, rfl, q1, q2, q3, q4⟩ := h.formH (by omega)
    have cj := q3 j hj
    rw [hT.at hj, hqq] at cj
    rw [hqq] at hq
    have ec : ((q + 1 : Nat) : Int) = (q : Int) + 1 := by omega
    rw [ec] at cj
    have fj := q4 j
    have hsH := h.sHv g rfl
    have hM := h.pokeH j q
    have hO := Off.of_grown (S := U) (grown_set (w := w) (g := g) (o := j) (.int .i64 ((q : Nat) : Int))) (fun g' hg' => by cases hg'; exact hsH)
    have cj2 : (w.setCell ⟨g, j, none⟩ (.int .i64 ((q : Nat) : Int))).cell? ⟨g, j, none⟩ = some (.int .i64 ((q : Nat) : Int)) := World.cell?_setCell_same _ _ _ cj
    obtain ⟨-, -, d2, d3, -⟩ := hM.cells
    have hhl := hT.hl
    have ei : ((j + 1 : Nat) : Int) = (j : Int) + 1 := by omega
    have e0 : (((j : Int) + 1) == 0) = false := by simp; omega
    rw [ei]
    by_cases hz : q = 0
    · subst hz
      rw [less_out (by omega) hqq]
      have hfl := hle.free
      rw [hT.fr, List.length_map] at hfl
      have e00 : ((0 : Nat) : Int) = 0 := rfl
      simp only [e00] at hM hO cj2 d2 d3
      have hc1 := hM.mono (U' := fun k => U k ∨ w.heap.size ≤ k) (fun k hk => .inl hk) (fun k hk => by rcases hk with hk | hk; exact h.sB k hk; omega)
      have hbA := (Below.refl (w.setCell ⟨g, j, none⟩ (.int .i64 0)).heap.size (w.setCell ⟨g, j, none⟩ (.int .i64 0))).alloc (Nat.le_refl _) (.cells #[.int .i64 (j : Nat)] 3)
      have M3 := Lib.hid (hc1.below hbA)
      have O3 := Lib.hid (hO.seq (Off.of_below hbA))
      have HNW := Lib.hid (heap_alloc_new (w.setCell ⟨g, j, none⟩ (.int .i64 0)) (.cells #[.int .i64 (j : Nat)] 3))
      have HC := Lib.hid (fun (k : Nat) (_ : k < V.length) (hk : (T.out (j + 1)).live (k + 1)) => (show T.live (k + 1) ∧ (T.out (j + 1)).set (k + 1) = T.set (k + 1) from ⟨((live_out (by omega) _).1 hk).1, by rw [set_out, if_neg ((live_out (by omega) _).1 hk).2]⟩))
      have R := Lib.hid (out_ref hT hj)
      obtain ⟨-, ⟨la, lc, rfl⟩⟩ := h.shapes.2
      obtain ⟨i0, hi, hz0, hz1, hz2⟩ := info_int7
      clear h hT fin hM hO hc1 hbA q3 q4 hqq
      go_enter Tryd.func17, Tryd.ntmps17
      go_wp2_with (at_builtin; refine wpList_append_lies _ rfl (.tmp 41) (.tmp 44) 34 rfl 0 3 i0 (.int .i64 0) 1 8 Tryd.underlying34 hi hz0 hz1 hz2 rfl (by decide) (.slice la L.length lc) L.length (fl natC L) rfl M3.out.hlv ⟨w.heap.size, 0, none⟩ 1 1 [.int .i64 (j : Nat)] rfl rfl (by have := World.news_of_block HNW.out; simpa using this) (by simp [Value.oneCell']) (by decide) (by unfold maxLen; omega) (by omega) (Nat.zero_le _) _ rfl ?_; intro g4 cap4 w4 ho4 hg4 ha4 hl4; refine Hid.out ?_)
      have hc : ∀ g', (Value.slice la L.length lc).ownBlock = some g' → ∃ cur, ((w.setCell ⟨g, j, none⟩ (.int .i64 0)).alloc (.cells #[.int .i64 (j : Nat)] 3)).heap[g']? = some (.cells cur 3 (0, 0)) := fun g' hg' => own_tag M3.out.hlv hg'
      have hst4 := far_tagne hg4 hc M3.out.hst (by decide)
      have k3 : w4.cell? ⟨rb, 3, none⟩ = some (.slice la L.length lc) := by rw [cell_of_row w4 rb 3 _ _ _ hst4]; rfl
      have k4 : w4.frozen? ⟨rb, 3, none⟩ = false := by simp [World.frozen?, hst4]
      have e5 : fl natC (L ++ [j]) = fl natC L ++ [.int .i64 (j : Nat)] := by rw [fl_app, fl_one]; rfl
      have l5 : (L ++ [j]).length = L.length + 1 := by simp
      have hsz := O3.out.size
      have M5 := Lib.hid ((M3.out.reL (.inl rfl) hg4 (L' := L ++ [j]) (lv' := .slice (some ⟨g4, 0, none⟩) (L.length + 1) cap4) (by rw [e5, l5]; exact ho4) (fun g' hg' => by
        cases hg'
        rcases ha4 with e | e
        · exact M3.out.sLv _ e
        · right; show w.heap.size ≤ g4; omega) (fun g' e1 e2 => by
        cases e2
        rcases ha4 with e | e
        · exact M3.out.ap _ e1 e
        · have e3 : g4 < _ := own_lt7 M3.out.hhv e1; omega)).conv HC.out)
      have hsU : ∀ g', (Value.slice la L.length lc).ownBlock = some g' → U g' ∨ w.heap.size ≤ g' := fun g' hg' => M3.out.sLv g' hg'
      have O5 := Lib.hid ((((O3.out.mono (S' := fun k => U k ∨ w.heap.size ≤ k) (fun k hk => .inl hk)).seq (Off.of_grown hg4 hsU)).seq (Off.of_grown (grown_set (w := w4) (g := rb) (o := 3) (.slice (some ⟨g4, 0, none⟩) (L.length + 1) cap4)) (fun g' hg' => by cases hg'; exact M3.out.sRb))).cut)
      clear hg4 ha4 ho4 hc hst4 e5 l5 hsU hl4
      refine Lib.hid ?_
      go_wp2
      first | go_end0 | refine bodyPost_ret (results_none rfl _ _ _) rfl ?_
      exact ⟨rfl, ⟨_, _, _, _, _, _, _, M5.out, R.out⟩, O5.out⟩
    · have M := Lib.hid (hM.conv (fun k _ hk => upd_sets hok (q := q) hl (.inr (by omega)) k hk))
      have R := Lib.hid (upd_ref hT (q := q) hj)
      rw [less_upd (by rintro ⟨-, e⟩; omega), hqq]
      have eq1 : q + 1 - 1 = q := rfl
      rw [eq1]
      have FIN := Lib.hid (fin ⟨_, _, _, _, _, _, _, M.out, R.out⟩ hO)
      have ez : ((q : Int) == 0) = false := by simpa using hz
      clear h hT fin hM hO M R q3 q4 hqq
      go_enter Tryd.func17, Tryd.ntmps17
      go_wp2
      first | go_end0 | refine bodyPost_ret (results_none rfl _ _ _) rfl ?_
      exact ⟨rfl, FIN.out⟩
end
end Go.Proofs.YtiobcifpebehnaaDoor

/- J6 -/
/- J6: the reference's Add, where it may not, or the set is there -/
namespace Go
/-- 'append(s, x...)' at a step of a region that draws its order, x of whatever length. -/
theorem step_append_at7 {P : Program} {w : World} {ops : Array Oper} {o : Oper} {a : Act} {K : Act → World → Prop} {Q : Exit → Act → World → Prop} {E : Prop} (hgd : o.guard = none) (s x : Operand) (t : TypeId)
    (ho : o.op = .call { callee := .builtin .append, args := #[s, x], argTypes := #[t, t] })
    (base : Nat) (e : TypeId) (i : TypeInfo) (z : Value) (size bytes : Nat) (ht : P.underlying t = some (.slice e)) (hi : P.info? e = some i) (hz : i.zero = some z)
    (hsize : i.size = size) (hby : i.bytes = bytes) (hzs : z.cells.size = size) (hsz : 0 < size)
    (v : Value) (n : Nat) (xs : List Value) (hs : a.eval s = v) (hown : w.ownsRow base e size v n xs)
    (ad : Addr) (m c : Nat) (news : List Value) (hx : a.eval x = .slice (some ad) m c) (hl : news.length = m * size) (hnews : ∀ j u, news[j]? = some u → w.cell? (ad.add j) = some u) (h1 : ∀ u ∈ news, u.oneCell' = true)
    (h63 : n + m ≤ maxLen) (hbytes : (n + m) * bytes ≤ 140737488355328) (hbase : base ≤ w.heap.size)
    (h : ∀ v' w', w'.ownsRow base e size v' (n + m) (xs ++ news) → w.grownBy w' v.ownBlock → (v'.ownBlock = v.ownBlock ∨ v'.ownBlock = some w.heap.size) → K (a.put o.dst v') w') :
    if Region.wanted o (yielded ops a.tmps) = true then Oper.wp P o a w K Q else E := by
  have hw : Region.wanted o (yielded ops a.tmps) = true := by simp [Region.wanted, hgd]
  rw [if_pos hw]
  obtain ⟨v', w', hr, h2, h3, _, h5⟩ := run_append_own_at (P := P) w base t o.type e i z size bytes ht hi hz hsize hby hzs hsz v n xs hown ad m c news hl hnews h1 h63 hbytes hbase
  unfold Oper.wp execOp
  simp only [ho, resolve, invoke, builtin, Sem.run_bind, Sem.run_pure, Result.andThen_ok, List.map_toArray, List.map_cons, List.map_nil, hs, hx, hr]
  exact h v' w' h2 h3 h5
end Go
namespace Go.Proofs.YtiobcifpebehnaaDoor
open Go.RowKit
set_option linter.unusedVariables false

section
variable {B : Nat} {U : Nat → Prop} {rb : Nat} {kv : Value} {T : TabS} {n : Nat}
def RAddP (B : Nat) (U : Nat → Prop) (rb : Nat) (kv : Value) (T : TabS) (x : List Att) (w : World) (e : Ending) (w' : World) : Prop :=
  (may5 T.ks x ≠ 0 ∧ e = .returned (.tuple #[.int .i64 0, .int .i64 (may5 T.ks x)]) ∧ RefR B U rb kv T w' ∧ Below w.heap.size w w') ∨
  (may5 T.ks x = 0 ∧ e = .returned (.tuple #[.int .i64 (T.idOf x : Nat), .int .i64 0]) ∧ RefR B (fun k => U k ∨ w.heap.size ≤ k) rb kv (T.add x) w' ∧ Off U w w')
theorem RefR.cells {w : World} (h : RefR B U rb kv T w) : w.cell? ⟨rb, 0, none⟩ = some kv := by obtain ⟨sv, hv, lv, V, H, L, E, h, hT⟩ := h; exact h.cells.1
theorem radd_bad (v : Value) (x : List Att) (w : World) (h : RefR B U rb kv T w) (hk : Krow w kv T.ks) (hv : Arow w v x) (hW : ∀ a ∈ x, AttW a) (hS : ∀ a ∈ x, a.s.size ≤ 1048576) (hm : may5 T.ks x ≠ 0) :
    Calls Tryd.prog 15 #[.pointer (some ⟨rb, 0, none⟩), v] w (RAddP B U rb kv T x w) := by
  have c0 := h.cells
  have HM := Lib.hid (rmay_any5 kv T.ks v x w hk hv hW hS)
  have HK := Lib.hid (fun (w' : World) (hb : Below w.heap.size w w') => h.below hb)
  have HN := Lib.hid hm
  obtain ⟨va, vc, rfl⟩ := hv.shape
  obtain ⟨ka, kc, rfl⟩ := hk.shape
  have hE : (may5 T.ks x != 0) = true := by simpa using hm
  unfold RAddP
  generalize may5 T.ks x = e0 at *
  clear h hv hm hk
  go_enter Tryd.func15, Tryd.ntmps15
  go_wp2_with (go_at_call 34; refine HM.out.mono ?_; rintro e w1 ⟨rfl, hb1⟩)
  refine bodyPost_ret (v := .tuple #[.int .i64 0, .int .i64 e0]) (by simp [results, Tryd.results15, go_sem]) rfl (.inl ⟨HN.out, rfl, HK.out _ hb1, hb1⟩)

set_option maxHeartbeats 1000000 in
theorem radd_nil (v : Value) (w : World) (h : RefR B U rb kv T w) (hk : Krow w kv T.ks) (hv : Arow w v []) (hok : T.Ok) (hle : T.Le n) (hn : n ≤ 1000000) (hm : may5 T.ks [] = 0) :
    Calls Tryd.prog 15 #[.pointer (some ⟨rb, 0, none⟩), v] w (RAddP B U rb kv T [] w) := by
  have hlk : T.look [] = some 0 := by
    have := look_live hok (i := 0) (.inl rfl)
    rwa [hok.zero] at this
  have e1 : T.idOf [] = 0 := by unfold TabS.idOf; rw [hlk]
  have e2 : T.add [] = T.upd 0 ⟨T.set 0, T.times 0 + 1⟩ := by unfold TabS.add; rw [hlk]; rfl
  have HM := Lib.hid (rmay_any5 kv T.ks v [] w hk hv (by simp) (by simp))
  rw [hm] at HM
  have c0 := h.cells
  have hB := h.hB
  obtain ⟨sv, hv', lv, V, H, L, E, h, hT⟩ := h
  have hq : T.times 0 ≤ 1000000 := Nat.le_trans (hle.times 0) hn
  have HC := Lib.hid (fun (w1 : World) (hb : Below w.heap.size w w1) => (h.below hb).cells.2.2.2.2)
  have HF := Lib.hid (fun (w1 : World) (hb : Below w.heap.size w w1) => (h.below hb).nofreeze 4)
  have FIN := Lib.hid (fun (w1 : World) (hb : Below w.heap.size w w1) => (show RefR B (fun k => U k ∨ w.heap.size ≤ k) rb kv (T.upd 0 ⟨T.set 0, T.times 0 + 1⟩) (w1.setCell ⟨rb, 4, none⟩ (.int .i64 ((T.times 0 + 1 : Nat) : Int))) ∧ Off U w (w1.setCell ⟨rb, 4, none⟩ (.int .i64 ((T.times 0 + 1 : Nat) : Int))) from
    ⟨RefR.grow ⟨_, _, _, _, _, _, _, ((h.below hb).setE (T.times 0 + 1)).conv (fun j _ hj => upd_sets hok (q := T.times 0 + 1) (.inl rfl) (.inl rfl) j hj), upd_ref0 hT (T.times 0 + 1)⟩ hB,
      (Off.of_below hb).seq (Off.of_grown (grown_set _) (fun g' hg' => by cases hg'; exact h.sRb))⟩))
  have hE := hT.em
  subst hE
  obtain ⟨va, vc, rfl⟩ := hv.shape
  obtain ⟨ka, kc, rfl⟩ := hk.shape
  unfold RAddP
  rw [e1, e2, hm]
  generalize T.times 0 = q at *
  clear h hT hv hk hlk e1 e2 hm
  go_enter Tryd.func15, Tryd.ntmps15
  go_wp2_with (go_at_call 34; refine HM.out.mono ?_; rintro e w1 ⟨rfl, hb1⟩; have k4 := HC.out w1 hb1; have k5 := HF.out w1 hb1)
  exact bodyPost_ret (v := .tuple #[.int .i64 0, .int .i64 0]) (by simp [results, Tryd.results15, go_sem]) rfl (.inr ⟨trivial, rfl, FIN.out w1 hb1⟩)

set_option maxHeartbeats 1000000 in
theorem radd_there (v : Value) (x : List Att) (w : World) (h : RefR B U rb kv T w) (hk : Krow w kv T.ks) (hv : Arow w v x) (hW : ∀ a ∈ x, AttW a) (hS : ∀ a ∈ x, a.s.size ≤ 1048576) (hok : T.Ok) (hle : T.Le n) (hn : n ≤ 1000000) (hm : may5 T.ks x = 0) (hX : x ≠ []) {i : Nat} (hl : T.look x = some i) :
    Calls Tryd.prog 15 #[.pointer (some ⟨rb, 0, none⟩), v] w (RAddP B U rb kv T x w) := by
  obtain ⟨l1, l2, l3⟩ := look_some hl
  obtain ⟨j, rfl⟩ : ∃ j, i = j + 1 := by
    cases i with
    | zero => exact absurd (by rw [← l2, hok.zero]) hX
    | succ j => exact ⟨j, rfl⟩
  have e1 : T.idOf x = j + 1 := by unfold TabS.idOf; rw [hl]
  have e2 : T.add x = T.upd (j + 1) ⟨T.set (j + 1), T.times (j + 1) + 1⟩ := by unfold TabS.add; rw [hl]; rfl
  have HM := Lib.hid (rmay_any5 kv T.ks v x w hk hv hW hS)
  rw [hm] at HM
  have HFD := Lib.hid (fun (w1 : World) (hb : Below w.heap.size w w1) => rfind7 v x w1 (h.below hb) (hv.below hb (Nat.le_refl _)) hX hok hle hn)
  have hfi : rfndI (T.look x) = (j : Int) := by rw [hl]; show ((j + 1 : Nat) : Int) - 1 = _; omega
  rw [hfi] at HFD
  have c0 := h.cells
  have hB := h.hB
  obtain ⟨sv, hv', lv, V, H, L, E, h, hT⟩ := h
  have hj : j < H.length := by have := hT.hl; omega
  have hq : T.times (j + 1) ≤ 1000000 := Nat.le_trans (hle.times (j + 1)) hn
  have hes := hle.es
  have hhl := hT.hl
  obtain ⟨g, cap, rfl, q1, q2, q3, q4⟩ := h.formH (by omega)
  have cj := q3 j hj
  rw [hT.at hj] at cj
  have fj := q4 j
  have hsH := h.sHv g rfl
  have HC := Lib.hid (fun (w1 : World) (hb : Below w.heap.size w w1) => (show w1.cell? ⟨rb, 2, none⟩ = some (.slice (some ⟨g, 0, none⟩) H.length cap) ∧ w1.cell? ⟨g, j, none⟩ = some (.int .i64 (T.times (j + 1) : Nat)) ∧ w1.frozen? ⟨g, j, none⟩ = false from
    ⟨(h.below hb).cells.2.2.1, (hb.cell (World.block_lt_of_cell? _ _ cj)).trans cj, (hb.frozen (p := ⟨g, j, none⟩) (World.block_lt_of_cell? _ _ cj)).trans fj⟩))
  have FIN := Lib.hid (fun (w1 : World) (hb : Below w.heap.size w w1) => (show RefR B (fun k => U k ∨ w.heap.size ≤ k) rb kv (T.upd (j + 1) ⟨T.set (j + 1), T.times (j + 1) + 1⟩) (w1.setCell ⟨g, j, none⟩ (.int .i64 ((T.times (j + 1) + 1 : Nat) : Int))) ∧ Off U w (w1.setCell ⟨g, j, none⟩ (.int .i64 ((T.times (j + 1) + 1 : Nat) : Int))) from
    ⟨RefR.grow ⟨_, _, _, _, _, _, _, ((h.below hb).pokeH j (T.times (j + 1) + 1)).conv (fun k _ hk => upd_sets hok (q := T.times (j + 1) + 1) l1 (.inr (Nat.succ_pos _)) k hk), upd_ref hT (q := T.times (j + 1) + 1) hj⟩ hB,
      (Off.of_below hb).seq (Off.of_grown (grown_set _) (fun g' hg' => by cases hg'; exact hsH))⟩))
  have hxl : 0 < x.length := List.length_pos_iff.2 hX
  have hvl := hv.len
  have ex : ((x.length : Int) == 0) = false := by simp; omega
  have ej : decide ((j : Int) < 0) = false := by rw [decide_eq_false_iff_not]; omega
  have ei : ((j + 1 : Nat) : Int) = (j : Int) + 1 := by omega
  obtain ⟨va, vc, rfl⟩ := hv.shape
  obtain ⟨ka, kc, rfl⟩ := hk.shape
  unfold RAddP
  rw [e1, e2, hm, ei]
  generalize T.times (j + 1) = q at *
  clear h hT hv hk hl e1 e2 hm cj fj q3 q4 hfi
  go_enter Tryd.func15, Tryd.ntmps15
  go_wp2_with (first
    | (go_at_call 34; refine HM.out.mono ?_; rintro e w1 ⟨rfl, hb1⟩)
    | (go_at_call 35; refine (HFD.out w1 hb1).mono ?_; rintro e w2 ⟨rfl, hb2⟩; have hb3 := below_add hb1 hb2 hb1.size; obtain ⟨k2, k3, k4⟩ := HC.out w2 hb3))
  exact bodyPost_ret (v := .tuple #[.int .i64 ((j : Int) + 1), .int .i64 0]) (by simp [results, Tryd.results15, go_sem]) rfl (.inr ⟨trivial, rfl, FIN.out w2 hb3⟩)
end
end Go.Proofs.YtiobcifpebehnaaDoor

/- J7 -/
/- J7: the reference's Add, a new set -/
namespace Go.Proofs.YtiobcifpebehnaaDoor
open Go.RowKit
set_option linter.unusedVariables false

section
variable {B : Nat} {U : Nat → Prop} {rb : Nat} {kv : Value} {T : TabS} {n : Nat}
theorem ins_ref {V H L E} (hok : T.Ok) (X : List Att) (hT : RefT T V H L E) {V' : List SV} {H0 L' : List Nat} {i : Nat} (hf : T.fresh = i + 1) (hv : V'.length = H0.length) (hl : (T.ins X).es.length = H0.length + 1) (hi : i < H0.length)
    (hH : ∀ (k : Nat) (x : Nat), H0[k]? = some x → k ≠ i → H[k]? = some x) (hfr : (T.ins X).free = L'.map (· + 1)) : RefT (T.ins X) V' ((H0.set i 0).set i 1) L' E := by
  refine ⟨by simpa using hv, by simpa using hl, fun k x hx => ?_, hfr, ?_⟩
  · rw [times_ins hok, hf]
    rw [List.getElem?_set] at hx
    split at hx
    · rename_i e
      rw [if_pos (by omega)]
      split at hx
      · exact (Option.some.inj hx).symm
      · cases hx
    · rename_i e
      rw [if_neg (by omega)]
      rw [List.getElem?_set, if_neg e] at hx
      exact hT.hn k x (hH k x hx (fun h => e h.symm))
  · rw [times_ins hok, hf, if_neg (by omega)]
    exact hT.em
theorem ins_sets (hok : T.Ok) (X : List Att) {i : Nat} (hf : T.fresh = i + 1) (k : Nat) (hk : (T.ins X).live (k + 1)) : (k = i ∨ T.live (k + 1)) ∧ (T.ins X).set (k + 1) = (if k = i then X else T.set (k + 1)) := by
  rw [live_ins hok, hf] at hk
  refine ⟨?_, ?_⟩
  · rcases hk with hk | hk
    · exact .inr hk
    · exact .inl (by omega)
  · rw [set_ins hok, hf]
    by_cases e : k = i
    · rw [if_pos (by omega), if_pos e]
    · rw [if_neg (by omega), if_neg e]
theorem ins_old {V H L E} (hok : T.Ok) (X : List Att) (hT : RefT T V H L E) {l0 : List Nat} {i : Nat} (hL : L = l0 ++ [i]) : T.fresh = i + 1 ∧ i < H.length ∧ (T.ins X).es.length = H.length + 1 ∧ (T.ins X).free = l0.map (· + 1) := by
  have hg : T.free.getLast? = some (i + 1) := by rw [hT.fr, hL]; simp
  have hf : T.fresh = i + 1 := by unfold TabS.fresh; rw [hg]
  obtain ⟨b1, b2, b3⟩ := hok.freeB (i + 1) (List.mem_of_getLast? hg)
  have hh := hT.hl
  refine ⟨hf, by omega, ?_, ?_⟩
  · unfold TabS.ins; rw [hg]; simpa using hh
  · unfold TabS.ins; rw [hg]
    show T.free.dropLast = _
    rw [hT.fr, hL]
    simp
theorem ins_new {V H L E} (X : List Att) (hT : RefT T V H L E) (hL : L = []) : T.fresh = H.length + 1 ∧ (T.ins X).es.length = H.length + 1 + 1 ∧ (T.ins X).free = [] := by
  have hfr := hT.fr
  rw [hL] at hfr
  have hg : T.free = [] := hfr
  have hh := hT.hl
  refine ⟨?_, ?_, ?_⟩
  · unfold TabS.fresh; rw [hg]; exact hh
  · unfold TabS.ins; rw [hg]; simp; exact hh
  · unfold TabS.ins; rw [hg]; rfl
end

section
variable {B : Nat} {U : Nat → Prop} {rb : Nat} {kv sv hv lv : Value} {V : List SV} {H L : List Nat} {E : Nat} {sets : Nat → List Att} {P : Nat → Prop} {w : World}
theorem RefMem.formS (h : RefMem B U rb kv sv hv lv V H L E sets P w) (h0 : 0 < V.length) : ∃ g cap, sv = .slice (some ⟨g, 0, none⟩) V.length cap ∧ V.length ≤ cap ∧ cap ≤ maxLen ∧ (∀ j (hj : j < V.length), w.cell? ⟨g, j, none⟩ = some V[j].v) ∧ ∀ o, w.frozen? ⟨g, o, none⟩ = false := by
  obtain ⟨g, cap, rfl, -, hg⟩ := h.hsv.form h0
  obtain ⟨b, off, e1, e2, e3, e4⟩ := sv_at (Row.of_owns (C := svC) h.hsv).1 h0
  injection e1 with e1
  injection e1 with e5 e6
  subst e5 e6
  refine ⟨g, cap, rfl, e2, e3, fun j hj => ?_, fun o => ?_⟩
  · have := e4 j hj; rwa [Nat.zero_add] at this
  · obtain ⟨cur, hc⟩ := own_tag h.hsv (g := g) rfl
    simp [World.frozen?, hc]
theorem RefMem.formL (h : RefMem B U rb kv sv hv lv V H L E sets P w) (h0 : 0 < L.length) : ∃ g cap, lv = .slice (some ⟨g, 0, none⟩) L.length cap ∧ L.length ≤ cap ∧ cap ≤ maxLen ∧ (∀ j (hj : j < L.length), w.cell? ⟨g, j, none⟩ = some (.int .i64 (L[j] : Nat))) := by
  obtain ⟨g, cap, rfl, -, hg⟩ := h.hlv.form h0
  obtain ⟨b, off, e1, e2, e3, e4⟩ := nat_at (Row.of_owns (C := natC) h.hlv).1 h0
  injection e1 with e1
  injection e1 with e5 e6
  subst e5 e6
  exact ⟨g, cap, rfl, e2, e3, fun j hj => by have := e4 j hj; rwa [Nat.zero_add] at this⟩
end
end Go.Proofs.YtiobcifpebehnaaDoor
