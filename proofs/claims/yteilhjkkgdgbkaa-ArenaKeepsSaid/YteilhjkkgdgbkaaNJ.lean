
import Derived.Test.YteilhjkkgdgbkaaNF
/- NJ: the reference's arena -/
namespace Go.Proofs.Yteilhjkkgdgbkaa
open Go.RowKit
set_option linter.unusedVariables false

def xC : Cel Int := ⟨fun x => [.int .i64 x], 1, fun _ => rfl, fun x u hu => by obtain rfl := List.mem_singleton.1 hu; rfl, by decide⟩
def tC : Cel Bool := ⟨fun b => [.bool b], 1, fun _ => rfl, fun x u hu => by obtain rfl := List.mem_singleton.1 hu; rfl, by decide⟩
theorem fl_set1 {α : Type} (C : Cel α) (hm : C.m = 1) (y : α) (v : Value) (hv : C.c y = [v]) : ∀ (l : List α) (i : Nat), i < l.length → (fl C l).set i v = fl C (l.set i y)
  | [], i, h => by simp at h
  | x :: r, 0, h => by
    rw [List.set_cons_zero, fl_cons, fl_cons, hv]
    have hl := C.len x
    rw [hm] at hl
    match hx : C.c x, hl with
    | [u], _ => rfl
  | x :: r, i + 1, h => by
    rw [List.set_cons_succ, fl_cons, fl_cons, ← fl_set1 C hm y v hv r i (by simpa using h)]
    have hl := C.len x
    rw [hm] at hl
    match hx : C.c x, hl with
    | [u], _ => rfl
/-- An owned row of one-cell things: where its cells are. -/
theorem own_at {α : Type} {C : Cel α} (hm : C.m = 1) {w : World} {base : Nat} {t : TypeId} {v : Value} {I : List α} (h : w.ownsRow base t 1 v I.length (fl C I)) (h0 : 0 < I.length) : ∃ g cap, v = .slice (some ⟨g, 0, none⟩) I.length cap ∧ I.length ≤ cap ∧ cap ≤ maxLen ∧ g < w.heap.size ∧ (∀ o, w.frozen? ⟨g, o, none⟩ = false) ∧ ∀ j (hj : j < I.length) u, C.c I[j] = [u] → w.cell? ⟨g, j, none⟩ = some u := by
  obtain ⟨g, cap, rfl, -, hg⟩ := h.form h0
  rw [← hm] at h
  obtain ⟨b, off, ha, hn, hc, hmx, hb, hat, -⟩ := Row.opened (Row.of_owns (C := C) h).1 h0
  injection ha with e1
  injection e1 with e5 e6
  subst e5 e6
  refine ⟨g, cap, rfl, hc, hmx, hg, fun o => ?_, fun j hj u hu => ?_⟩
  · obtain ⟨cur, hc⟩ := own_tag h (g := g) rfl
    simp [World.frozen?, hc]
  · have := hat j hj 0 u (by rw [hu]; rfl)
    rw [hm, Nat.mul_one, Nat.zero_add, Nat.add_zero] at this
    exact this

structure RefM (B : Nat) (U : Nat → Prop) (rb : Nat) (xv tv lv : Value) (X : List Int) (T : List Bool) (fr : List Nat) (w : World) : Prop where
  hst : w.heap[rb]? = some (.cells #[xv, tv, lv] 30 (0, 0))
  hx : w.ownsRow 0 2 1 xv X.length (fl xC X)
  ht : w.ownsRow 0 4 1 tv T.length (fl tC T)
  hl : w.ownsRow 0 3 1 lv fr.length (fl natC fr)
  sR : U rb
  sX : ∀ g, xv.ownBlock = some g → U g
  sT : ∀ g, tv.ownBlock = some g → U g
  sL : ∀ g, lv.ownBlock = some g → U g
  sB : ∀ k, U k → B ≤ k
  hB : B ≤ w.heap.size
section
variable {B : Nat} {U : Nat → Prop} {rb : Nat} {xv tv lv : Value} {X : List Int} {T : List Bool} {fr : List Nat} {w w' w1 : World}
theorem RefM.kept (h : RefM B U rb xv tv lv X T fr w) (hz : w.heap.size ≤ w'.heap.size) (hk : ∀ k, k < w.heap.size → U k → w'.heap[k]? = w.heap[k]?) : RefM B U rb xv tv lv X T fr w' :=
  ⟨(hk rb (lt_of_heap h.hst) h.sR).trans h.hst, owns_kept h.hx (fun g hg => hk g (own_lt7 h.hx hg) (h.sX g hg)), owns_kept h.ht (fun g hg => hk g (own_lt7 h.ht hg) (h.sT g hg)), owns_kept h.hl (fun g hg => hk g (own_lt7 h.hl hg) (h.sL g hg)),
    h.sR, h.sX, h.sT, h.sL, h.sB, by have := h.hB; omega⟩
theorem RefM.below (h : RefM B U rb xv tv lv X T fr w) (hb : Below w.heap.size w w') : RefM B U rb xv tv lv X T fr w' := h.kept hb.size (fun k hk _ => hb.block k hk)
theorem RefM.mono (h : RefM B U rb xv tv lv X T fr w) {U' : Nat → Prop} (hU : ∀ k, U k → U' k) (hB : ∀ k, U' k → B ≤ k) : RefM B U' rb xv tv lv X T fr w :=
  ⟨h.hst, h.hx, h.ht, h.hl, hU _ h.sR, fun g hg => hU _ (h.sX g hg), fun g hg => hU _ (h.sT g hg), fun g hg => hU _ (h.sL g hg), hB, h.hB⟩
theorem RefM.cutS (h : RefM B U rb xv tv lv X T fr w) : RefM B (fun k => U k ∧ k < w.heap.size) rb xv tv lv X T fr w :=
  ⟨h.hst, h.hx, h.ht, h.hl, ⟨h.sR, lt_of_heap h.hst⟩, fun g hg => ⟨h.sX g hg, own_lt7 h.hx hg⟩, fun g hg => ⟨h.sT g hg, own_lt7 h.ht hg⟩, fun g hg => ⟨h.sL g hg, own_lt7 h.hl hg⟩, fun k hk => h.sB k hk.1, h.hB⟩
theorem RefM.cells (h : RefM B U rb xv tv lv X T fr w) : w.cell? ⟨rb, 0, none⟩ = some xv ∧ w.cell? ⟨rb, 1, none⟩ = some tv ∧ w.cell? ⟨rb, 2, none⟩ = some lv := by
  refine ⟨?_, ?_, ?_⟩
  · rw [cell_of_row w rb 0 _ _ _ h.hst]; rfl
  · rw [cell_of_row w rb 1 _ _ _ h.hst]; rfl
  · rw [cell_of_row w rb 2 _ _ _ h.hst]; rfl
theorem RefM.nofreeze (h : RefM B U rb xv tv lv X T fr w) (o : Nat) : w.frozen? ⟨rb, o, none⟩ = false := by simp [World.frozen?, h.hst]
theorem tag_ne {w : World} {base : Nat} {e e' : TypeId} {size : Nat} {v : Value} {n : Nat} {xs : List Value} (h : w.ownsRow base e size v n xs) (hne : e ≠ e') : ∀ g, v.ownBlock = some g → ∃ o', w.heap[g]? = some o' ∧ ∀ c, o' ≠ .cells c e' (0, 0) := fun g hg => by
  obtain ⟨cur, hc⟩ := own_tag h hg
  exact ⟨_, hc, fun c e => by injection e with _ e _; exact hne e⟩
theorem RefM.st_far (h : RefM B U rb xv tv lv X T fr w) {base : Nat} {e : TypeId} {size : Nat} {v : Value} {n : Nat} {xs : List Value} (hv : w.ownsRow base e size v n xs) (hne : e ≠ 30) (hG : w.grownBy w1 v.ownBlock) : w1.heap[rb]? = some (.cells #[xv, tv, lv] 30 (0, 0)) :=
  far hG h.hst (fun g' hg' => by obtain ⟨o', q1, q2⟩ := tag_ne hv hne g' hg'; exact ⟨o', q1, q2 _⟩)
/-- The row of things turns within. -/
theorem RefM.pX {g cap : Nat} (h : RefM B U rb (.slice (some ⟨g, 0, none⟩) X.length cap) tv lv X T fr w) {i : Nat} (hi : i < X.length) (x : Int) : RefM B U rb (.slice (some ⟨g, 0, none⟩) X.length cap) tv lv (X.set i x) T fr (w.setCell ⟨g, i, none⟩ (.int .i64 x)) := by
  have hG := grown_set (w := w) (g := g) (o := i) (.int .i64 x)
  refine ⟨h.st_far h.hx (by decide) hG, ?_, own_far hG h.ht (tag_ne h.hx (by decide)), own_far hG h.hl (tag_ne h.hx (by decide)), h.sR, h.sX, h.sT, h.sL, h.sB, by have := h.hB; have := hG.size; omega⟩
  rw [List.length_set, ← fl_set1 xC rfl x (.int .i64 x) rfl X i hi]
  exact owns_set h.hx _
theorem RefM.pT {g cap : Nat} (h : RefM B U rb xv (.slice (some ⟨g, 0, none⟩) T.length cap) lv X T fr w) {i : Nat} (hi : i < T.length) (b : Bool) : RefM B U rb xv (.slice (some ⟨g, 0, none⟩) T.length cap) lv X (T.set i b) fr (w.setCell ⟨g, i, none⟩ (.bool b)) := by
  have hG := grown_set (w := w) (g := g) (o := i) (.bool b)
  refine ⟨h.st_far h.ht (by decide) hG, own_far hG h.hx (tag_ne h.ht (by decide)), ?_, own_far hG h.hl (tag_ne h.ht (by decide)), h.sR, h.sX, h.sT, h.sL, h.sB, by have := h.hB; have := hG.size; omega⟩
  rw [List.length_set, ← fl_set1 tC rfl b (.bool b) rfl T i hi]
  exact owns_set h.ht _
theorem far_st {w1 : World} {c : Array Value} (hst : w1.heap[rb]? = some (.cells c 30 (0, 0))) (e : TypeId) (he : e ≠ 30) : ∀ g', some rb = some g' → ∃ o', w1.heap[g']? = some o' ∧ ∀ c, o' ≠ .cells c e (0, 0) := fun g' hg' => by
  cases hg'
  exact ⟨_, hst, fun c hc => by injection hc with _ hc _; exact he hc.symm⟩
/-- A row is another one, and the state says so. -/
theorem RefM.rX (h : RefM B U rb xv tv lv X T fr w) {xv' : Value} {X' : List Int} (hG : w.grownBy w1 xv.ownBlock) (ho : w1.ownsRow 0 2 1 xv' X'.length (fl xC X')) (hS : ∀ g, xv'.ownBlock = some g → U g) :
    RefM B U rb xv' tv lv X' T fr (w1.setCell ⟨rb, 0, none⟩ xv') := by
  have hst1 := h.st_far h.hx (by decide) hG
  have hG2 := grown_set (w := w1) (g := rb) (o := 0) xv'
  refine ⟨?_, own_far hG2 ho (far_st hst1 _ (by decide)), own_far hG2 (own_far hG h.ht (tag_ne h.hx (by decide))) (far_st hst1 _ (by decide)), own_far hG2 (own_far hG h.hl (tag_ne h.hx (by decide))) (far_st hst1 _ (by decide)), h.sR, hS, h.sT, h.sL, h.sB, by have := h.hB; have := hG.size; have := hG2.size; omega⟩
  rw [heap_set xv' hst1]; rfl
theorem RefM.rT (h : RefM B U rb xv tv lv X T fr w) {tv' : Value} {T' : List Bool} (hG : w.grownBy w1 tv.ownBlock) (ho : w1.ownsRow 0 4 1 tv' T'.length (fl tC T')) (hS : ∀ g, tv'.ownBlock = some g → U g) :
    RefM B U rb xv tv' lv X T' fr (w1.setCell ⟨rb, 1, none⟩ tv') := by
  have hst1 := h.st_far h.ht (by decide) hG
  have hG2 := grown_set (w := w1) (g := rb) (o := 1) tv'
  refine ⟨?_, own_far hG2 (own_far hG h.hx (tag_ne h.ht (by decide))) (far_st hst1 _ (by decide)), own_far hG2 ho (far_st hst1 _ (by decide)), own_far hG2 (own_far hG h.hl (tag_ne h.ht (by decide))) (far_st hst1 _ (by decide)), h.sR, h.sX, hS, h.sL, h.sB, by have := h.hB; have := hG.size; have := hG2.size; omega⟩
  rw [heap_set tv' hst1]; rfl
theorem RefM.rL (h : RefM B U rb xv tv lv X T fr w) {lv' : Value} {fr' : List Nat} {row : Option Nat} (hrow : row = none ∨ row = lv.ownBlock) (hG : w.grownBy w1 row) (ho : w1.ownsRow 0 3 1 lv' fr'.length (fl natC fr')) (hS : ∀ g, lv'.ownBlock = some g → U g) :
    RefM B U rb xv tv lv' X T fr' (w1.setCell ⟨rb, 2, none⟩ lv') := by
  have hr : ∀ e, e ≠ 3 → ∀ g, row = some g → ∃ o', w.heap[g]? = some o' ∧ ∀ c, o' ≠ .cells c e (0, 0) := fun e he g hg => by
    rcases hrow with e1 | e1
    · rw [e1] at hg; cases hg
    · exact tag_ne h.hl (Ne.symm he) g (by rw [← e1]; exact hg)
  have hst1 : w1.heap[rb]? = some (.cells #[xv, tv, lv] 30 (0, 0)) := far hG h.hst (fun g hg => by obtain ⟨o', q1, q2⟩ := hr 30 (by decide) g hg; exact ⟨o', q1, q2 _⟩)
  have hG2 := grown_set (w := w1) (g := rb) (o := 2) lv'
  refine ⟨?_, own_far hG2 (own_far hG h.hx (hr _ (by decide))) (far_st hst1 _ (by decide)), own_far hG2 (own_far hG h.ht (hr _ (by decide))) (far_st hst1 _ (by decide)), own_far hG2 ho (far_st hst1 _ (by decide)), h.sR, h.sX, h.sT, hS, h.sB, by have := h.hB; have := hG.size; have := hG2.size; omega⟩
  rw [heap_set lv' hst1]; rfl
end

/-- What the reference has of the same places. -/
@[reducible] def thing (p : Option Int) : Int := p.getD 0
def RefR (B : Nat) (U : Nat → Prop) (rb : Nat) (A : ArS Int) (w : World) : Prop := ∃ xv tv lv, RefM B U rb xv tv lv (A.ps.map thing) (A.ps.map Option.isSome) A.free w
section
variable {B : Nat} {U : Nat → Prop} {rb : Nat} {A : ArS Int} {w w' : World}
theorem RefR.kept (h : RefR B U rb A w) (hz : w.heap.size ≤ w'.heap.size) (hk : ∀ k, k < w.heap.size → U k → w'.heap[k]? = w.heap[k]?) : RefR B U rb A w' := by
  obtain ⟨xv, tv, lv, h⟩ := h; exact ⟨xv, tv, lv, h.kept hz hk⟩
theorem RefR.below (h : RefR B U rb A w) (hb : Below w.heap.size w w') : RefR B U rb A w' := h.kept hb.size (fun k hk _ => hb.block k hk)
theorem RefR.mono (h : RefR B U rb A w) {U' : Nat → Prop} (hU : ∀ k, U k → U' k) (hB : ∀ k, U' k → B ≤ k) : RefR B U' rb A w := by
  obtain ⟨xv, tv, lv, h⟩ := h; exact ⟨xv, tv, lv, h.mono hU hB⟩
theorem RefR.cutS (h : RefR B U rb A w) : RefR B (fun k => U k ∧ k < w.heap.size) rb A w := by
  obtain ⟨xv, tv, lv, h⟩ := h; exact ⟨xv, tv, lv, h.cutS⟩
theorem RefR.sB (h : RefR B U rb A w) : ∀ k, U k → B ≤ k := by obtain ⟨xv, tv, lv, h⟩ := h; exact h.sB
theorem RefR.hB (h : RefR B U rb A w) : B ≤ w.heap.size := by obtain ⟨xv, tv, lv, h⟩ := h; exact h.hB
theorem RefR.lt (h : RefR B U rb A w) : rb < w.heap.size := by obtain ⟨xv, tv, lv, h⟩ := h; exact lt_of_heap h.hst
/-- Its cells, and where its things lie. -/
theorem RefR.open_ (h : RefR B U rb A w) : ∃ xa xc ta tc la lc, w.cell? ⟨rb, 0, none⟩ = some (.slice xa A.ps.length xc) ∧ w.cell? ⟨rb, 1, none⟩ = some (.slice ta A.ps.length tc) ∧ w.cell? ⟨rb, 2, none⟩ = some (.slice la A.free.length lc) ∧
    ∀ i, i < A.ps.length → ∃ xg tg, xa = some ⟨xg, 0, none⟩ ∧ ta = some ⟨tg, 0, none⟩ ∧ w.cell? ⟨xg, i, none⟩ = some (.int .i64 (thing (A.at_ i))) ∧ w.frozen? ⟨xg, i, none⟩ = false ∧ w.cell? ⟨tg, i, none⟩ = some (.bool (A.at_ i).isSome) ∧ U xg := by
  obtain ⟨xv, tv, lv, h⟩ := h
  obtain ⟨c0, c1, c2⟩ := h.cells
  obtain ⟨xa, xc, rfl, -, -⟩ := own_shape h.hx
  obtain ⟨ta, tc, rfl, -, -⟩ := own_shape h.ht
  obtain ⟨la, lc, rfl, -, -⟩ := own_shape h.hl
  rw [List.length_map] at c0 c1
  refine ⟨xa, xc, ta, tc, la, lc, c0, c1, c2, fun i hi => ?_⟩
  have hi1 : i < (A.ps.map thing).length := by simpa using hi
  have hi2 : i < (A.ps.map Option.isSome).length := by simpa using hi
  obtain ⟨xg, _, e1, -, -, -, hf, hxat⟩ := own_at rfl h.hx (by omega)
  obtain ⟨tg, _, e2, -, -, -, -, htat⟩ := own_at rfl h.ht (by omega)
  injection e1 with e1 _ _
  injection e2 with e2 _ _
  subst e1 e2
  have ha : A.ps[i] = A.at_ i := by have := at_get hi; rw [List.getElem?_eq_getElem hi] at this; exact Option.some.inj this
  refine ⟨xg, tg, rfl, rfl, hxat i hi1 _ ?_, hf i, htat i hi2 _ ?_, h.sX _ rfl⟩
  · show [Value.int .i64 ((A.ps.map thing)[i])] = _
    rw [List.getElem_map, ha]
  · show [Value.bool ((A.ps.map Option.isSome)[i])] = _
    rw [List.getElem_map, ha]
theorem rhas_any (i : Int) (w : World) (h : RefR B U rb A w) (hb : A.ps.length ≤ 1000000) :
    Calls Try.prog 9 #[.pointer (some ⟨rb, 0, none⟩), .int .i64 i] w fun e w' => e = .returned (.bool (A.has i)) ∧ w' = w := by
  obtain ⟨xa, xc, ta, tc, la, lc, c0, c1, c2, hat⟩ := h.open_
  clear h
  by_cases h0 : i < 0
  · rw [has_neg h0]
    have g0 : decide (0 ≤ i) = false := by rw [decide_eq_false_iff_not]; omega
    clear hat
    go_enter Try.func9, Try.ntmps9
    go_wp2
    go_ret
    exact ⟨rfl, rfl⟩
  · obtain ⟨k, rfl⟩ : ∃ k : Nat, i = k := ⟨i.toNat, by omega⟩
    have g0 : decide (0 ≤ (k : Int)) = true := by rw [decide_eq_true_iff]; omega
    by_cases h1 : k < A.ps.length
    · obtain ⟨xg, tg, rfl, rfl, -, -, ct, -⟩ := hat k h1
      have g1 : decide ((k : Int) < (A.ps.length : Int)) = true := by rw [decide_eq_true_iff]; omega
      have k0 : (0 : Int) ≤ (k : Int) := by omega
      have k1 : (k : Int) < (A.ps.length : Int) := by omega
      rw [has_nat]
      generalize (A.at_ k).isSome = b at *
      clear hat
      go_enter Try.func9, Try.ntmps9
      go_wp2
      go_ret
      exact ⟨rfl, rfl⟩
    · rw [has_ge (by omega)]
      have g1 : decide ((k : Int) < (A.ps.length : Int)) = false := by rw [decide_eq_false_iff_not]; omega
      clear hat
      go_enter Try.func9, Try.ntmps9
      go_wp2
      go_ret
      exact ⟨rfl, rfl⟩
theorem cnt_take_succ (l : List (Option Int)) (j : Nat) (h : j < l.length) : cnt (l.take (j + 1)) = cnt (l.take j) + if (l.getD j none).isSome then 1 else 0 := by
  rw [List.take_succ_eq_append_getElem h]
  unfold cnt
  rw [List.countP_append]
  simp [List.getD, h]
theorem cnt_le (l : List (Option Int)) : cnt l ≤ l.length := List.countP_le_length
theorem rlen_any (w : World) (h : RefR B U rb A w) (hb : A.ps.length ≤ 1000000) :
    Calls Try.prog 17 #[.pointer (some ⟨rb, 0, none⟩)] w fun e w' => e = .returned (.int .i64 (cnt A.ps : Nat)) ∧ w' = w := by
  obtain ⟨xa, xc, ta, tc, la, lc, c0, c1, c2, hat⟩ := h.open_
  have HAT := Lib.hid hat
  clear h hat
  go_enter Try.func17, Try.ntmps17
  go_wp2
  go_loopw [3, 4] (fun s3 s4 wr => ∃ j : Nat, j ≤ A.ps.length ∧ s4 = .int .i64 j ∧ s3 = .int .i64 (cnt (A.ps.take j) : Nat) ∧ wr = w) (fun _ s4 _ => A.ps.length - (intOf s4).toNat)
  case atStart => exact ⟨0, Nat.zero_le _, rfl, rfl, rfl⟩
  case round =>
    obtain ⟨j, hj, rfl, rfl, hw⟩ := hrel
    have hw := hw.symm
    subst hw
    by_cases hlt : j < A.ps.length
    · obtain ⟨xg, tg, rfl, rfl, -, -, ct, -⟩ := HAT.out j hlt
      have g1 : decide ((j : Int) < (A.ps.length : Int)) = true := by rw [decide_eq_true_iff]; omega
      have k0 : (0 : Int) ≤ (j : Int) := by omega
      have k1 : (j : Int) < (A.ps.length : Int) := by omega
      have hc := cnt_take_succ A.ps j hlt
      have hle := cnt_le (A.ps.take j)
      rw [List.length_take] at hle
      have hle2 : cnt (A.ps.take j) ≤ 1000000 := by omega
      cases hh : (A.at_ j).isSome with
      | true =>
        have hh' : (A.ps.getD j none).isSome = true := hh
        rw [hh', if_pos rfl] at hc
        rw [hh] at ct
        have HC := Lib.hid hc
        generalize cnt (A.ps.take j) = c at *
        clear hc hh hh' hle
        go_wp2
        go_roundw
        case rel => exact ⟨j + 1, by omega, by go_num, by rw [HC.out]; go_num, trivial⟩
        case measure => simp [intOf]; omega
      | false =>
        have hh' : (A.ps.getD j none).isSome = false := hh
        rw [hh'] at hc
        rw [hh] at ct
        have HC := Lib.hid hc
        generalize cnt (A.ps.take j) = c at *
        clear hc hh hh' hle
        go_wp2
        go_roundw
        case rel => exact ⟨j + 1, by omega, by go_num, by rw [HC.out]; simp, trivial⟩
        case measure => simp [intOf]; omega
    · obtain rfl : j = A.ps.length := by omega
      have g1 : decide ((A.ps.length : Int) < (A.ps.length : Int)) = false := by rw [decide_eq_false_iff_not]; omega
      go_wp2
      go_ret
      exact ⟨rfl, rfl⟩
end
end Go.Proofs.Yteilhjkkgdgbkaa
