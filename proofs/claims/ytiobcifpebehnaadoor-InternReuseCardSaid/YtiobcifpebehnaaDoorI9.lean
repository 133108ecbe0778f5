
import Derived.Test.YtiobcifpebehnaaDoorI8
/- I9: what lies there, step by step -/
namespace Go.Proofs.YtiobcifpebehnaaDoor
open Go.RowKit
set_option linter.unusedVariables false

/-- A table's memory, whatever it is to mean. -/
structure Mem (B : Nat) (S : Nat → Prop) (tb st mb : Nat) (m : Option Nat) (sv fv : Value) (hs : List HV) (sets : Nat → List Att) (fr : List Nat) (ks : List Key) (k : Nat) (D : DataW Unit) (w : World) : Prop where
  ht : w.heap[tb]? = some (.cells #[.pointer (some ⟨st, 0, none⟩)] 54 (0, 0))
  hst : w.heap[st]? = some (.cells #[.map m, .map (some mb), sv, fv] 83 (0, 0))
  good : Good ks
  hm : (m = none ∧ ks = []) ∨ ∃ sb, m = some sb ∧ sb < B ∧ w.ownsMap Tryd.prog 3 keyElem sb 64 (dat ks)
  hmb : w.ownsMap Tryd.prog 9 (plainElem Tryd.prog 3) mb k D
  hsv : w.ownsRow 0 88 2 sv hs.length (fl heldC hs)
  hfv : w.ownsRow 0 3 1 fv fr.length (fr.map fun i => Value.int .i64 (i : Nat))
  hrow : ∀ (i : Nat) (x : HV), hs[i]? = some x → w.ownsRow 0 47 5 x.v (sets i).length (fl attC (sets i))
  sT : S tb
  sSt : S st
  sMb : S mb
  sSv : ∀ g, sv.ownBlock = some g → S g
  sFv : ∀ g, fv.ownBlock = some g → S g
  sRow : ∀ (i : Nat) (x : HV), hs[i]? = some x → ∀ g, x.v.ownBlock = some g → S g
  sB : ∀ k, S k → B ≤ k
  hB : B ≤ w.heap.size
theorem TbM.mem {B : Nat} {S : Nat → Prop} {tb st mb : Nat} {m : Option Nat} {sv fv : Value} {hs : List HV} {D : DataW Unit} {T : TabS} {n : Nat} {w : World} (h : TbM B S tb st mb m sv fv hs D T n w) :
    Mem B S tb st mb m sv fv hs T.set T.free T.ks (n + 1) D w :=
  ⟨h.ht, h.hst, h.good, h.hm, h.hmb, by rw [h.len]; exact h.hsv, h.hfv, h.hrow, h.sT, h.sSt, h.sMb, h.sSv, h.sFv, h.sRow, h.sB, h.hB⟩

section
variable {B : Nat} {S : Nat → Prop} {tb st mb : Nat} {m : Option Nat} {sv fv : Value} {hs : List HV} {sets : Nat → List Att} {fr : List Nat} {ks : List Key} {k : Nat} {D : DataW Unit} {w : World}
/-- .. and what it means. -/
theorem Mem.tbm (h : Mem B S tb st mb m sv fv hs sets fr ks k D w) {T : TabS} {n : Nat} (h1 : hs.length = T.es.length) (h2 : ∀ i, i < hs.length → sets i = T.set i) (h3 : fr = T.free) (h4 : ks = T.ks) (h5 : k ≤ n + 1) (h6 : ∀ (i : Nat) (x : HV), hs[i]? = some x → x.n = T.times i)
    (h7 : Ids D T) (h8 : T.Ok) (h9 : T.Le n) : TbM B S tb st mb m sv fv hs D T n w := by
  subst h3 h4
  refine ⟨h.ht, h.hst, h.good, h.hm, ?_, by rw [← h1]; exact h.hsv, h.hfv, fun i x hx => ?_, h6, h.sT, h.sSt, h.sMb, h.sSv, h.sFv, h.sRow, h.sB, h.hB, h7, h8, h9⟩
  · obtain ⟨es, clock, q1, q2, q3, q4⟩ := h.hmb
    exact ⟨es, clock, q1, q2, by omega, q4⟩
  · rw [← h2 i (List.getElem?_eq_some_iff.1 hx).1]; exact h.hrow i x hx
theorem Mem.kept (h : Mem B S tb st mb m sv fv hs sets fr ks k D w) {w' : World} (hz : w.heap.size ≤ w'.heap.size) (hk : ∀ k, k < w.heap.size → k < B ∨ S k → w'.heap[k]? = w.heap[k]?) : Mem B S tb st mb m sv fv hs sets fr ks k D w' := by
  have hw : ∀ {base : Nat} {e : TypeId} {size : Nat} {v : Value} {l : Nat} {xs : List Value}, w.ownsRow base e size v l xs → (∀ g, v.ownBlock = some g → S g) → w'.ownsRow base e size v l xs := fun ho hS =>
    owns_kept ho (fun g hg => hk g (own_lt7 ho hg) (.inr (hS g hg)))
  refine ⟨(hk tb (lt_of_heap h.ht) (.inr h.sT)).trans h.ht, (hk st (lt_of_heap h.hst) (.inr h.sSt)).trans h.hst, h.good, ?_, map_kept h.hmb (hk mb h.hmb.lt (.inr h.sMb)), hw h.hsv h.sSv, hw h.hfv h.sFv, fun i x hx => hw (h.hrow i x hx) (h.sRow i x hx),
    h.sT, h.sSt, h.sMb, h.sSv, h.sFv, h.sRow, h.sB, by have := h.hB; omega⟩
  rcases h.hm with h0 | ⟨sb, h1, h2, h3⟩
  · exact .inl h0
  · exact .inr ⟨sb, h1, h2, map_kept h3 (hk sb h3.lt (.inl h2))⟩
theorem Mem.below (h : Mem B S tb st mb m sv fv hs sets fr ks k D w) {w' : World} (hb : Below w.heap.size w w') : Mem B S tb st mb m sv fv hs sets fr ks k D w' := h.kept hb.size (fun k hk _ => hb.block k hk)
theorem Mem.mono (h : Mem B S tb st mb m sv fv hs sets fr ks k D w) {S' : Nat → Prop} (hS : ∀ k, S k → S' k) (hB : ∀ k, S' k → B ≤ k) : Mem B S' tb st mb m sv fv hs sets fr ks k D w :=
  ⟨h.ht, h.hst, h.good, h.hm, h.hmb, h.hsv, h.hfv, h.hrow, hS _ h.sT, hS _ h.sSt, hS _ h.sMb, fun g hg => hS _ (h.sSv g hg), fun g hg => hS _ (h.sFv g hg), fun i x hx g hg => hS _ (h.sRow i x hx g hg), hB, h.hB⟩
theorem Mem.cells (h : Mem B S tb st mb m sv fv hs sets fr ks k D w) : w.cell? ⟨tb, 0, none⟩ = some (.pointer (some ⟨st, 0, none⟩)) ∧ w.cell? ⟨st, 0, none⟩ = some (.map m) ∧ w.cell? ⟨st, 1, none⟩ = some (.map (some mb)) ∧ w.cell? ⟨st, 2, none⟩ = some sv ∧ w.cell? ⟨st, 3, none⟩ = some fv := by
  refine ⟨?_, ?_, ?_, ?_, ?_⟩
  · rw [cell_of_row w tb 0 _ _ _ h.ht]; rfl
  · rw [cell_of_row w st 0 _ _ _ h.hst]; rfl
  · rw [cell_of_row w st 1 _ _ _ h.hst]; rfl
  · rw [cell_of_row w st 2 _ _ _ h.hst]; rfl
  · rw [cell_of_row w st 3 _ _ _ h.hst]; rfl
theorem Mem.nofreeze (h : Mem B S tb st mb m sv fv hs sets fr ks k D w) (o : Nat) : w.frozen? ⟨st, o, none⟩ = false := by simp [World.frozen?, h.hst]
theorem Mem.form (h : Mem B S tb st mb m sv fv hs sets fr ks k D w) (h0 : 0 < hs.length) : ∃ g cap, sv = .slice (some ⟨g, 0, none⟩) hs.length cap ∧ g < w.heap.size ∧ hs.length ≤ cap := by
  obtain ⟨g, cap, rfl, -, hg⟩ := h.hsv.form h0
  refine ⟨g, cap, rfl, hg, ?_⟩
  rcases h.hsv.2 with ⟨hn, _⟩ | ⟨g', cap', cur, hv, _, _, hc, _⟩
  · cases hn
  · injection hv with _ _ e; subst e; exact hc
theorem Mem.place {g cap : Nat} (h : Mem B S tb st mb m (.slice (some ⟨g, 0, none⟩) hs.length cap) fv hs sets fr ks k D w) {i : Nat} {x : HV} (hx : hs[i]? = some x) :
    w.cell? ⟨g, i * 2, none⟩ = some (.slice x.a x.l x.c) ∧ w.cell? ⟨g, i * 2 + 1, none⟩ = some (.int .i64 (x.n : Nat)) ∧ (∀ o, w.frozen? ⟨g, o, none⟩ = false) := by
  obtain ⟨hlt, hx2⟩ := List.getElem?_eq_some_iff.1 hx
  have hR := (Row.of_owns (C := heldC) h.hsv).1
  obtain ⟨b, off, ha, -, -, -, -, hat, -⟩ := Row.opened hR (by omega)
  obtain ⟨rfl, rfl⟩ : b = g ∧ off = 0 := by injection ha with e; injection e with e1 e2; exact ⟨e1.symm, e2.symm⟩
  have c0 := hat i hlt 0 _ rfl
  have c1 := hat i hlt 1 _ rfl
  rw [Nat.zero_add] at c0 c1
  rw [hx2] at c0 c1
  refine ⟨c0, c1, fun o => ?_⟩
  obtain ⟨cur, hc⟩ := own_tag h.hsv (g := b) rfl
  simp [World.frozen?, hc]

/-- The number at a place. -/
theorem Mem.poke {g cap : Nat} (h : Mem B S tb st mb m (.slice (some ⟨g, 0, none⟩) hs.length cap) fv hs sets fr ks k D w) {i q : Nat} {x : HV} (hx : hs[i]? = some x) :
    Mem B S tb st mb m (.slice (some ⟨g, 0, none⟩) (hs.set i ⟨x.a, x.l, x.c, q⟩).length cap) fv (hs.set i ⟨x.a, x.l, x.c, q⟩) sets fr ks k D (w.setCell ⟨g, i * 2 + 1, none⟩ (.int .i64 (q : Nat))) := by
  obtain ⟨cur, hcur⟩ := own_tag h.hsv (g := g) rfl
  have hG := grown_set (w := w) (g := g) (o := i * 2 + 1) (.int .i64 (q : Nat))
  have hr1 : ∀ e : TypeId, e ≠ 88 → ∀ g', some g = some g' → ∃ o', w.heap[g']? = some o' ∧ ∀ c, o' ≠ .cells c e (0, 0) := fun e he g' hg' => by
    cases hg'
    exact ⟨_, hcur, fun c hc => by injection hc with _ hc _; exact he hc.symm⟩
  have hr2 : ∀ g', some g = some g' → ∃ c e fz, w.heap[g']? = some (.cells c e fz) := fun g' hg' => by cases hg'; exact ⟨_, _, _, hcur⟩
  have key : ∀ (j : Nat) (y : HV), (hs.set i ⟨x.a, x.l, x.c, q⟩)[j]? = some y → ∃ z, hs[j]? = some z ∧ y.v = z.v := fun j y hy => by
    rw [List.getElem?_set] at hy
    split at hy
    · rename_i hij
      subst hij
      split at hy
      · cases hy; exact ⟨x, hx, rfl⟩
      · cases hy
    · exact ⟨y, hy, rfl⟩
  refine ⟨far hG h.ht (fun g' hg' => by cases hg'; exact ⟨_, hcur, by simp⟩), ?_, h.good, ?_, map_far hG h.hmb hr2, ?_, own_far hG h.hfv (hr1 _ (by decide)), fun j y hy => ?_, h.sT, h.sSt, h.sMb, fun g' hg' => h.sSv g' hg', h.sFv, fun j y hy => ?_, h.sB, by have := h.hB; have := hG.size; omega⟩
  · rw [List.length_set]; exact far hG h.hst (fun g' hg' => by cases hg'; exact ⟨_, hcur, by simp⟩)
  · rcases h.hm with h0 | ⟨sb, h1, h2, h3⟩
    · exact .inl h0
    · exact .inr ⟨sb, h1, h2, map_far hG h3 hr2⟩
  · rw [← fl_poke hs i x q hx, List.length_set]
    exact owns_set h.hsv _
  · obtain ⟨z, hz, e⟩ := key j y hy
    rw [e]
    exact own_far hG (h.hrow j z hz) (hr1 _ (by decide))
  · obtain ⟨z, hz, e⟩ := key j y hy
    rw [e]
    exact h.sRow j z hz
/-- The set at a place. -/
theorem Mem.puts {g cap : Nat} (h : Mem B S tb st mb m (.slice (some ⟨g, 0, none⟩) hs.length cap) fv hs sets fr ks k D w) {i : Nat} {x : HV} (hx : hs[i]? = some x) {a : Option Addr} {l c : Nat} {X : List Att} (ho : w.ownsRow 0 47 5 (.slice a l c) X.length (fl attC X)) (hS : ∀ g, (Value.slice a l c).ownBlock = some g → S g) :
    Mem B S tb st mb m (.slice (some ⟨g, 0, none⟩) (hs.set i ⟨a, l, c, x.n⟩).length cap) fv (hs.set i ⟨a, l, c, x.n⟩) (fun j => if j = i then X else sets j) fr ks k D (w.setCell ⟨g, i * 2, none⟩ (.slice a l c)) := by
  obtain ⟨cur, hcur⟩ := own_tag h.hsv (g := g) rfl
  have hG := grown_set (w := w) (g := g) (o := i * 2) (.slice a l c)
  have hr1 : ∀ e : TypeId, e ≠ 88 → ∀ g', some g = some g' → ∃ o', w.heap[g']? = some o' ∧ ∀ c, o' ≠ .cells c e (0, 0) := fun e he g' hg' => by
    cases hg'
    exact ⟨_, hcur, fun c hc => by injection hc with _ hc _; exact he hc.symm⟩
  have hr2 : ∀ g', some g = some g' → ∃ c e fz, w.heap[g']? = some (.cells c e fz) := fun g' hg' => by cases hg'; exact ⟨_, _, _, hcur⟩
  have key : ∀ (j : Nat) (y : HV), (hs.set i ⟨a, l, c, x.n⟩)[j]? = some y → (j = i ∧ y.v = .slice a l c) ∨ (j ≠ i ∧ hs[j]? = some y) := fun j y hy => by
    rw [List.getElem?_set] at hy
    split at hy
    · rename_i hij
      subst hij
      split at hy
      · cases hy; exact .inl ⟨rfl, rfl⟩
      · cases hy
    · rename_i hij
      exact .inr ⟨fun e => hij e.symm, hy⟩
  refine ⟨far hG h.ht (fun g' hg' => by cases hg'; exact ⟨_, hcur, by simp⟩), ?_, h.good, ?_, map_far hG h.hmb hr2, ?_, own_far hG h.hfv (hr1 _ (by decide)), fun j y hy => ?_, h.sT, h.sSt, h.sMb, fun g' hg' => h.sSv g' hg', h.sFv, fun j y hy => ?_, h.sB, by have := h.hB; have := hG.size; omega⟩
  · rw [List.length_set]; exact far hG h.hst (fun g' hg' => by cases hg'; exact ⟨_, hcur, by simp⟩)
  · rcases h.hm with h0 | ⟨sb, h1, h2, h3⟩
    · exact .inl h0
    · exact .inr ⟨sb, h1, h2, map_far hG h3 hr2⟩
  · rw [← fl_puts hs i x a l c hx, List.length_set]
    exact owns_set h.hsv _
  · rcases key j y hy with ⟨rfl, e⟩ | ⟨hne, hy2⟩
    · rw [e, if_pos rfl]
      exact own_far hG ho (hr1 _ (by decide))
    · rw [if_neg hne]
      exact own_far hG (h.hrow j y hy2) (hr1 _ (by decide))
  · rcases key j y hy with ⟨rfl, e⟩ | ⟨hne, hy2⟩
    · rw [e]; exact hS
    · exact h.sRow j y hy2
/-- The map of texts turns. -/
theorem Mem.turn (h : Mem B S tb st mb m sv fv hs sets fr ks k D w) {w' : World} {k' : Nat} {D' : DataW Unit} (ho : w'.ownsMap Tryd.prog 9 (plainElem Tryd.prog 3) mb k' D') (hG : w.grownBy w' (some mb)) : Mem B S tb st mb m sv fv hs sets fr ks k' D' w' := by
  obtain ⟨es, clock, hmb, -⟩ := h.hmb
  have hr1 : ∀ e : TypeId, ∀ g', some mb = some g' → ∃ o', w.heap[g']? = some o' ∧ ∀ c, o' ≠ .cells c e (0, 0) := fun e g' hg' => by cases hg'; exact ⟨_, hmb, fun c hc => by cases hc⟩
  have hmB := h.sB _ h.sMb
  refine ⟨far hG h.ht (fun g' hg' => by cases hg'; exact ⟨_, hmb, by simp⟩), far hG h.hst (fun g' hg' => by cases hg'; exact ⟨_, hmb, by simp⟩), h.good, ?_, ho, own_far hG h.hsv (hr1 _), own_far hG h.hfv (hr1 _), fun j y hy => own_far hG (h.hrow j y hy) (hr1 _), h.sT, h.sSt, h.sMb, h.sSv, h.sFv, h.sRow, h.sB, by have := h.hB; have := hG.size; omega⟩
  rcases h.hm with h0 | ⟨sb, h1, h2, h3⟩
  · exact .inl h0
  · exact .inr ⟨sb, h1, h2, map_kept h3 (hG.block sb h3.lt (fun e => by injection e; omega))⟩
/-- The row of free ids turns, and the state with it. -/
theorem Mem.refree (h : Mem B S tb st mb m sv fv hs sets fr ks k D w) {w1 : World} {fv' : Value} {fr' : List Nat} (hG : w.grownBy w1 fv.ownBlock) (ho : w1.ownsRow 0 3 1 fv' fr'.length (fr'.map fun i => Value.int .i64 (i : Nat))) (hS : ∀ g, fv'.ownBlock = some g → S g) :
    Mem B S tb st mb m sv fv' hs sets fr' ks k D (w1.setCell ⟨st, 3, none⟩ fv') := by
  have ht1 : ∀ g', fv.ownBlock = some g' → ∃ cur, w.heap[g']? = some (.cells cur 3 (0, 0)) := fun g' hg' => own_tag h.hfv hg'
  have hr1 : ∀ e : TypeId, e ≠ 3 → ∀ g', fv.ownBlock = some g' → ∃ o', w.heap[g']? = some o' ∧ ∀ c, o' ≠ .cells c e (0, 0) := fun e he g' hg' => by
    obtain ⟨cur, hcur⟩ := ht1 g' hg'
    exact ⟨_, hcur, fun c hc => by injection hc with _ hc _; exact he hc.symm⟩
  have hr2 : ∀ g', fv.ownBlock = some g' → ∃ c e fz, w.heap[g']? = some (.cells c e fz) := fun g' hg' => by obtain ⟨cur, hcur⟩ := ht1 g' hg'; exact ⟨_, _, _, hcur⟩
  have hst1 := far hG h.hst (fun g' hg' => by obtain ⟨cur, hcur⟩ := ht1 g' hg'; exact ⟨_, hcur, by simp⟩)
  have htb1 := far hG h.ht (fun g' hg' => by obtain ⟨cur, hcur⟩ := ht1 g' hg'; exact ⟨_, hcur, by simp⟩)
  have hG2 := grown_set (w := w1) (g := st) (o := 3) fv'
  have hs1 : ∀ e : TypeId, e ≠ 83 → ∀ g', some st = some g' → ∃ o', w1.heap[g']? = some o' ∧ ∀ c, o' ≠ .cells c e (0, 0) := fun e he g' hg' => by
    cases hg'
    exact ⟨_, hst1, fun c hc => by injection hc with _ hc _; exact he hc.symm⟩
  have hs2 : ∀ g', some st = some g' → ∃ c e fz, w1.heap[g']? = some (.cells c e fz) := fun g' hg' => by cases hg'; exact ⟨_, _, _, hst1⟩
  refine ⟨far hG2 htb1 (fun g' hg' => by cases hg'; exact ⟨_, hst1, by simp⟩), ?_, h.good, ?_, map_far hG2 (map_far hG h.hmb hr2) hs2, own_far hG2 (own_far hG h.hsv (hr1 _ (by decide))) (hs1 _ (by decide)), own_far hG2 ho (hs1 _ (by decide)), fun j y hy => own_far hG2 (own_far hG (h.hrow j y hy) (hr1 _ (by decide))) (hs1 _ (by decide)),
    h.sT, h.sSt, h.sMb, h.sSv, hS, h.sRow, h.sB, by have := h.hB; have := hG.size; have := hG2.size; omega⟩
  · rw [heap_set fv' hst1]; rfl
  · rcases h.hm with h0 | ⟨sb, h1, h2, h3⟩
    · exact .inl h0
    · exact .inr ⟨sb, h1, h2, map_far hG2 (map_far hG h3 hr2) hs2⟩
/-- The row of places turns, and the state with it. -/
theorem Mem.resets (h : Mem B S tb st mb m sv fv hs sets fr ks k D w) {w1 : World} {sv' : Value} {hs' : List HV} {sets' : Nat → List Att} (hG : w.grownBy w1 sv.ownBlock) (ho : w1.ownsRow 0 88 2 sv' hs'.length (fl heldC hs')) (hS : ∀ g, sv'.ownBlock = some g → S g)
    (hn : ∀ (i : Nat) (x : HV), hs'[i]? = some x → (hs[i]? = some x ∧ sets' i = sets i) ∨ (x = noHV ∧ sets' i = [])) :
    Mem B S tb st mb m sv' fv hs' sets' fr ks k D (w1.setCell ⟨st, 2, none⟩ sv') := by
  have ht1 : ∀ g', sv.ownBlock = some g' → ∃ cur, w.heap[g']? = some (.cells cur 88 (0, 0)) := fun g' hg' => own_tag h.hsv hg'
  have hr1 : ∀ e : TypeId, e ≠ 88 → ∀ g', sv.ownBlock = some g' → ∃ o', w.heap[g']? = some o' ∧ ∀ c, o' ≠ .cells c e (0, 0) := fun e he g' hg' => by
    obtain ⟨cur, hcur⟩ := ht1 g' hg'
    exact ⟨_, hcur, fun c hc => by injection hc with _ hc _; exact he hc.symm⟩
  have hr2 : ∀ g', sv.ownBlock = some g' → ∃ c e fz, w.heap[g']? = some (.cells c e fz) := fun g' hg' => by obtain ⟨cur, hcur⟩ := ht1 g' hg'; exact ⟨_, _, _, hcur⟩
  have hst1 := far hG h.hst (fun g' hg' => by obtain ⟨cur, hcur⟩ := ht1 g' hg'; exact ⟨_, hcur, by simp⟩)
  have htb1 := far hG h.ht (fun g' hg' => by obtain ⟨cur, hcur⟩ := ht1 g' hg'; exact ⟨_, hcur, by simp⟩)
  have hG2 := grown_set (w := w1) (g := st) (o := 2) sv'
  have hs1 : ∀ e : TypeId, e ≠ 83 → ∀ g', some st = some g' → ∃ o', w1.heap[g']? = some o' ∧ ∀ c, o' ≠ .cells c e (0, 0) := fun e he g' hg' => by
    cases hg'
    exact ⟨_, hst1, fun c hc => by injection hc with _ hc _; exact he hc.symm⟩
  have hs2 : ∀ g', some st = some g' → ∃ c e fz, w1.heap[g']? = some (.cells c e fz) := fun g' hg' => by cases hg'; exact ⟨_, _, _, hst1⟩
  refine ⟨far hG2 htb1 (fun g' hg' => by cases hg'; exact ⟨_, hst1, by simp⟩), ?_, h.good, ?_, map_far hG2 (map_far hG h.hmb hr2) hs2, own_far hG2 ho (hs1 _ (by decide)), own_far hG2 (own_far hG h.hfv (hr1 _ (by decide))) (hs1 _ (by decide)), fun j y hy => ?_,
    h.sT, h.sSt, h.sMb, hS, h.sFv, fun j y hy => ?_, h.sB, by have := h.hB; have := hG.size; have := hG2.size; omega⟩
  · rw [heap_set sv' hst1]; rfl
  · rcases h.hm with h0 | ⟨sb, h1, h2, h3⟩
    · exact .inl h0
    · exact .inr ⟨sb, h1, h2, map_far hG2 (map_far hG h3 hr2) hs2⟩
  · rcases hn j y hy with ⟨q1, q2⟩ | ⟨rfl, q2⟩
    · rw [q2]; exact own_far hG2 (own_far hG (h.hrow j y q1) (hr1 _ (by decide))) (hs1 _ (by decide))
    · rw [q2]; exact ⟨rfl, .inl ⟨rfl, rfl⟩⟩
  · rcases hn j y hy with ⟨q1, q2⟩ | ⟨rfl, q2⟩
    · exact h.sRow j y q1
    · intro g hg; simp [Value.ownBlock] at hg
end
end Go.Proofs.YtiobcifpebehnaaDoor
