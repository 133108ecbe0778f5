
import Derived.Test.YtiobcifpebehnaaDoorIF
/- I25: InternOne as plain data -/
namespace Go.Proofs.YtiobcifpebehnaaDoor
open Go.RowKit
set_option linter.unusedVariables false

/-- How often an id was told. -/
def cntP (L : List (Nat × List Att)) (i : Nat) : Nat := (L.filter fun p => p.1 == i).length
theorem cntP_snoc (L : List (Nat × List Att)) (p : Nat × List Att) (i : Nat) : cntP (L ++ [p]) i = cntP L i + if i = p.1 then 1 else 0 := by
  unfold cntP
  rw [List.filter_append, List.length_append]
  congr 1
  by_cases h : i = p.1
  · subst h; simp
  · have : ¬ p.1 = i := fun e => h e.symm
    simp [h, this]
theorem cntP_cons (L : List (Nat × List Att)) (p : Nat × List Att) (i : Nat) : cntP (p :: L) i = cntP L i + if i = p.1 then 1 else 0 := by
  unfold cntP
  rw [List.filter_cons]
  by_cases h : i = p.1
  · subst h; simp
  · have : ¬ p.1 = i := fun e => h e.symm
    simp [h, this]
theorem times_ge {T : TabS} {i : Nat} (h : T.es.length ≤ i) : T.times i = 0 := by unfold TabS.times; rw [getD_ge _ _ h]

/-- What was added, all of it held. -/
structure OneM (ks : List Key) (L : List (Nat × List Att)) (T : TabS) : Prop where
  ks : T.ks = ks
  free : T.free = []
  at_ : ∀ p ∈ L, T.live p.1 ∧ T.set p.1 = p.2
  cnt : ∀ i, T.times i = cntP L i
  pos : ∀ i, 0 < i → i < T.es.length → 0 < T.times i
theorem one_new (ks : List Key) : OneM ks [] (newT ks) := by
  refine ⟨rfl, rfl, (fun p hp => by cases hp), fun i => ?_, fun i h0 h1 => ?_⟩
  · have := (le_new ks).times i
    unfold cntP
    simp
    omega
  · simp [newT] at h1
    omega
theorem one_add {ks : List Key} {L : List (Nat × List Att)} {T : TabS} (h : T.Ok) (hm : OneM ks L T) (x : List Att) : OneM ks (L ++ [(T.idOf x, x)]) (T.add x) := by
  unfold TabS.add
  unfold TabS.idOf
  cases hl : T.look x with
  | some i =>
    obtain ⟨l1, l2, l3⟩ := look_some hl
    obtain ⟨-, k2, k3⟩ := ok_upd h l1 (n := T.times i + 1) (.inr (Nat.succ_pos _))
    have ht : ∀ j, (T.bump i).times j = if j = i then T.times i + 1 else T.times j := fun j => by
      unfold TabS.bump
      rw [times_upd]
      by_cases e : j = i
      · rw [if_pos ⟨e, l3⟩, if_pos e]
      · rw [if_neg (fun hc => e hc.1), if_neg e]
    refine ⟨hm.ks, hm.free, fun p hp => ?_, fun j => ?_, fun j h0 h1 => ?_⟩
    · rcases List.mem_append.1 hp with hp | hp
      · obtain ⟨q1, q2⟩ := hm.at_ p hp
        exact ⟨(k2 _).2 q1, (k3 _).trans q2⟩
      · obtain rfl := List.mem_singleton.1 hp
        exact ⟨(k2 _).2 l1, (k3 _).trans l2⟩
    · show (T.bump i).times j = _
      rw [ht, cntP_snoc, ← hm.cnt]
      show _ = T.times j + if j = i then 1 else 0
      split
      · rename_i e; rw [e]
      · rfl
    · have h1' : j < T.es.length := by simpa [TabS.bump, TabS.upd] using h1
      show 0 < (T.bump i).times j
      rw [ht]
      split
      · omega
      · exact hm.pos j h0 h1'
  | none =>
    have hf : T.fresh = T.es.length := by unfold TabS.fresh; rw [hm.free]; rfl
    have hfr : (T.ins x).free = [] := by unfold TabS.ins; rw [hm.free]; rfl
    have hlen : (T.ins x).es.length = T.es.length + 1 := by unfold TabS.ins; rw [hm.free]; simp
    refine ⟨(ks_ins T x).trans hm.ks, hfr, fun p hp => ?_, fun j => ?_, fun j h0 h1 => ?_⟩
    · rcases List.mem_append.1 hp with hp | hp
      · obtain ⟨q1, q2⟩ := hm.at_ p hp
        have hne : p.1 ≠ T.fresh := fun e => (fresh_facts h).2 (e ▸ q1)
        exact ⟨(live_ins h x _).2 (.inl q1), by rw [set_ins h, if_neg hne]; exact q2⟩
      · obtain rfl := List.mem_singleton.1 hp
        exact ⟨(live_ins h x _).2 (.inr rfl), by rw [set_ins h, if_pos rfl]⟩
    · show (T.ins x).times j = _
      rw [times_ins h, cntP_snoc, ← hm.cnt]
      show _ = T.times j + if j = T.fresh then 1 else 0
      split
      · rename_i e
        rw [e, hf, times_ge (Nat.le_refl _)]
      · rfl
    · show 0 < (T.ins x).times j
      rw [times_ins h]
      split
      · omega
      · rename_i e
        exact hm.pos j h0 (by have h1' : j < (T.ins x).es.length := h1; omega)
theorem one_ids {ks : List Key} {L : List (Nat × List Att)} {T : TabS} (h : T.Ok) (hm : OneM ks L T) {p q : Nat × List Att} (hp : p ∈ L) (hq : q ∈ L) : (p.1 = q.1 ↔ p.2 = q.2) := by
  obtain ⟨p1, p2⟩ := hm.at_ p hp
  obtain ⟨q1, q2⟩ := hm.at_ q hq
  constructor
  · intro e; rw [← p2, ← q2, e]
  · intro e; exact h.apart _ _ p1 q1 (by rw [p2, q2, e])
theorem one_zero {ks : List Key} {L : List (Nat × List Att)} {T : TabS} (h : T.Ok) (hm : OneM ks L T) {p : Nat × List Att} (hp : p ∈ L) : (p.1 = 0 ↔ p.2.length = 0) := by
  obtain ⟨p1, p2⟩ := hm.at_ p hp
  constructor
  · intro e; rw [← p2, e, h.zero]; rfl
  · intro e
    have : p.2 = [] := List.eq_nil_of_length_eq_zero e
    exact h.apart _ _ p1 (.inl rfl) (by rw [p2, this, h.zero])

/-- What is still to be freed. -/
structure FreeM (L : List (Nat × List Att)) (T : TabS) : Prop where
  cnt : ∀ i, T.times i = cntP L i
  full : ∀ i, 0 < i → i < T.es.length → T.times i = 0 → i ∈ T.free
theorem OneM.toFree {ks : List Key} {L : List (Nat × List Att)} {T : TabS} (hm : OneM ks L T) : FreeM L T :=
  ⟨hm.cnt, fun i h0 h1 h2 => by have := hm.pos i h0 h1; omega⟩
theorem free_live {p : Nat × List Att} {L : List (Nat × List Att)} {T : TabS} (hm : FreeM (p :: L) T) : T.live p.1 := by
  have h1 := hm.cnt p.1
  rw [cntP_cons, if_pos rfl] at h1
  rcases Nat.eq_zero_or_pos p.1 with e | e
  · exact .inl e
  · refine .inr ⟨?_, by omega⟩
    rcases Nat.lt_or_ge p.1 T.es.length with hl | hl
    · exact hl
    · rw [times_ge hl] at h1; omega
theorem free_step {p : Nat × List Att} {L : List (Nat × List Att)} {T : TabS} (h : T.Ok) (hm : FreeM (p :: L) T) : FreeM L (T.less p.1) := by
  have hl := free_live hm
  have hlt := live_lt hl h.pos
  by_cases hc : p.1 ≠ 0 ∧ T.times p.1 = 1
  · rw [less_out hc.1 hc.2]
    refine ⟨fun i => ?_, fun i h0 h1 h2 => ?_⟩
    · rw [times_out]
      have := hm.cnt i
      rw [cntP_cons] at this
      split
      · rename_i e
        rw [if_pos e, e, hc.2] at this
        rw [e]
        omega
      · rename_i e
        rw [if_neg e] at this
        omega
    · rw [times_out] at h2
      show i ∈ T.free ++ [p.1]
      have h1' : i < T.es.length := by simpa [TabS.out] using h1
      by_cases e : i = p.1
      · simp [e]
      · rw [if_neg e] at h2
        exact List.mem_append.2 (.inl (hm.full i h0 h1' h2))
  · rw [less_upd hc]
    refine ⟨fun i => ?_, fun i h0 h1 h2 => ?_⟩
    · rw [times_upd]
      have := hm.cnt i
      rw [cntP_cons] at this
      split
      · rename_i e
        rw [if_pos e.1] at this
        rw [e.1] at this ⊢
        show T.times p.1 - 1 = _
        omega
      · rename_i e
        rw [if_neg (fun e2 => e ⟨e2, hlt⟩)] at this
        omega
    · rw [times_upd] at h2
      have h1' : i < T.es.length := by simpa [TabS.upd] using h1
      show i ∈ T.free
      by_cases e : i = p.1
      · rw [if_pos ⟨e, hlt⟩] at h2
        exfalso
        have h2' : T.times p.1 - 1 = 0 := h2
        have hcnt := hm.cnt p.1
        rw [cntP_cons, if_pos rfl] at hcnt
        exact hc ⟨by omega, by omega⟩
      · rw [if_neg (fun e2 => e e2.1)] at h2
        exact hm.full i h0 h1' h2
theorem free_done {T : TabS} (h : T.Ok) (hm : FreeM [] T) : T.len = 1 ∧ heldI T 0 = 0 := by
  have h0 : ∀ i, T.times i = 0 := fun i => hm.cnt i
  refine ⟨?_, ?_⟩
  · have hp : T.free.Perm (List.range' 1 (T.es.length - 1)) := by
      refine (List.perm_ext_iff_of_nodup h.freeN (List.nodup_range' ..)).2 fun i => ?_
      rw [List.mem_range'_1]
      constructor
      · intro hi
        obtain ⟨b1, b2, -⟩ := h.freeB i hi
        omega
      · rintro ⟨b1, b2⟩
        exact hm.full i (by omega) (by have := h.pos; omega) (h0 i)
    have := hp.length_eq
    rw [List.length_range'] at this
    unfold TabS.len
    have := h.pos
    omega
  · unfold heldI
    rw [show (0 : Int) = ((0 : Nat) : Int) from rfl, live_has (.inl rfl), if_pos rfl]
    have := h0 0
    simp [this]
end Go.Proofs.YtiobcifpebehnaaDoor
