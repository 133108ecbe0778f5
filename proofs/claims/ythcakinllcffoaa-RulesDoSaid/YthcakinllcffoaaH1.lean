
import Derived.Test.YthcakinllcffoaaD8
/- H1: the groups of which a patch sets a key; a patch completed; what is handed on: as plain data -/
namespace Go.Proofs.Ythcakinllcffoaa
open Go.RowKit
set_option linter.unusedVariables false

/-- The group of the key with that number. -/
def grpN (ks : List Key) (id : Int) : Int := ((fnd ks id).getD noKey).grp
theorem grpN_some {ks : List Key} {id : Int} {k : Key} (h : fnd ks id = some k) : grpN ks id = k.grp := by simp [grpN, h]
theorem grpN_none {ks : List Key} {id : Int} (h : fnd ks id = none) : grpN ks id = 0 := by simp [grpN, h]
theorem mayK_grp {k : Key} (h : mayK k = true) : 0 ≤ k.grp ∧ k.grp ≤ 8 := by
  unfold mayK at h; rw [decide_eq_true_iff] at h; exact ⟨h.2.2.2.2.1, h.2.2.2.2.2.1⟩
theorem grpN_range {ks : List Key} (hg : Good ks) (id : Int) : 0 ≤ grpN ks id ∧ grpN ks id ≤ 8 := by
  cases h : fnd ks id with
  | none => rw [grpN_none h]; omega
  | some k => rw [grpN_some h]; exact mayK_grp (hg.1 k (fnd_some h).1)

/-- Of what group a change sets a key. -/
def setG (ks : List Key) (c : Chg) : Option Int := if c.g = true ∨ grpN ks c.key = 0 then none else some (grpN ks c.key)
theorem setG_some {ks : List Key} {c : Chg} {g : Int} : setG ks c = some g ↔ c.g = false ∧ grpN ks c.key = g ∧ g ≠ 0 := by
  unfold setG
  by_cases h : c.g = true ∨ grpN ks c.key = 0
  · rw [if_pos h]
    constructor
    · intro e; cases e
    · rintro ⟨h1, h2, h3⟩
      rcases h with h | h
      · rw [h1] at h; cases h
      · exact absurd (h2.symm.trans h) h3
  · rw [if_neg h]
    constructor
    · intro e
      injection e with e
      exact ⟨by cases hg : c.g with | false => rfl | true => exact absurd (.inl hg) h, e, fun h0 => h (.inr (e.trans h0))⟩
    · rintro ⟨_, h2, _⟩; rw [h2]
def setsG (ks : List Key) (p : List Chg) : List Int := p.filterMap (setG ks)
theorem setsG_nil (ks : List Key) : setsG ks [] = [] := rfl
theorem setsG_app (ks : List Key) (p q : List Chg) : setsG ks (p ++ q) = setsG ks p ++ setsG ks q := List.filterMap_append
theorem setsG_skip {ks : List Key} {p : List Chg} {k : Nat} (h : k < p.length) (hs : setG ks p[k] = none) : setsG ks (p.take (k + 1)) = setsG ks (p.take k) := by
  rw [tsnoc h, setsG_app]
  simp [setsG, hs]
theorem setsG_more {ks : List Key} {p : List Chg} {k : Nat} {g : Int} (h : k < p.length) (hs : setG ks p[k] = some g) : setsG ks (p.take (k + 1)) = setsG ks (p.take k) ++ [g] := by
  rw [tsnoc h, setsG_app]
  simp [setsG, hs]
theorem setsG_mem {ks : List Key} {p : List Chg} {g : Int} : g ∈ setsG ks p ↔ ∃ c ∈ p, setG ks c = some g := by simp [setsG]
theorem setsG_range {ks : List Key} (hg : Good ks) {p : List Chg} {g : Int} (h : g ∈ setsG ks p) : 0 < g ∧ g ≤ 8 := by
  obtain ⟨c, _, hc⟩ := setsG_mem.1 h
  obtain ⟨_, h2, h3⟩ := setG_some.1 hc
  have := grpN_range hg c.key
  omega
theorem setsG_zero {ks : List Key} {p : List Chg} : (0 : Int) ∉ setsG ks p := fun h => by
  obtain ⟨c, _, hc⟩ := setsG_mem.1 h
  exact (setG_some.1 hc).2.2 rfl
theorem setsG_bad {ks : List Key} {p : List Chg} {k : Nat} {g : Int} (h : k < p.length) (hs : setG ks p[k] = some g) (hm : g ∈ setsG ks (p.take k)) : ¬ (setsG ks p).Nodup := fun hn => by
  have e : setsG ks p = setsG ks (p.take (k + 1)) ++ setsG ks (p.drop (k + 1)) := by rw [← setsG_app, List.take_append_drop]
  rw [e, setsG_more h hs] at hn
  have h1 := (List.nodup_append.1 hn).1
  exact (List.nodup_append.1 h1).2.2 g hm g (by simp) rfl
theorem setsG_good {ks : List Key} {p : List Chg} {k : Nat} {g : Int} (h : k < p.length) (hs : setG ks p[k] = some g) (hm : g ∉ setsG ks (p.take k)) (hn : (setsG ks (p.take k)).Nodup) : (setsG ks (p.take (k + 1))).Nodup := by
  rw [setsG_more h hs]
  refine List.nodup_append.2 ⟨hn, by simp, fun a ha b hb e => ?_⟩
  simp at hb
  subst hb
  subst e
  exact hm ha
/-- Two of one group. -/
theorem pair_sym {α : Type} {R : α → α → Prop} (hs : ∀ a b, R a b → R b a) : ∀ {l : List α}, l.Pairwise R → ∀ a ∈ l, ∀ b ∈ l, a = b ∨ R a b
  | [], _, a, ha, _, _ => by cases ha
  | x :: r, h, a, ha, b, hb => by
    obtain ⟨h1, h2⟩ := List.pairwise_cons.1 h
    rcases List.mem_cons.1 ha with ea | ha
    · rcases List.mem_cons.1 hb with eb | hb
      · exact .inl (ea.trans eb.symm)
      · rw [ea]; exact .inr (h1 b hb)
    · rcases List.mem_cons.1 hb with eb | hb
      · rw [eb]; exact .inr (hs _ _ (h1 a ha))
      · exact pair_sym hs h2 a ha b hb
theorem apart_of {ks : List Key} {p : List Chg} (hn : (setsG ks p).Nodup) {c d : Chg} (hc : c ∈ p) (hd : d ∈ p) {g : Int} (h1 : setG ks c = some g) (h2 : setG ks d = some g) : c = d := by
  have h := List.pairwise_filterMap.1 (show List.Pairwise (· ≠ ·) (p.filterMap (setG ks)) from hn)
  rcases pair_sym (fun a b hab x hx y hy => fun e => hab y hy x hx e.symm) h c hc d hd with e | e
  · exact e
  · exact absurd rfl (e g h1 g h2)
theorem nodup_of {ks : List Key} {p : List Chg} (hr : RiseC p) (h : ∀ c ∈ p, ∀ d ∈ p, ∀ g, setG ks c = some g → setG ks d = some g → c.key = d.key) : (setsG ks p).Nodup := by
  show List.Pairwise (· ≠ ·) (p.filterMap (setG ks))
  refine List.pairwise_filterMap.2 (List.Pairwise.imp_of_mem (fun {a b} ha hb hab x hx y hy e => ?_) hr)
  subst e
  have := h a ha b hb x hx hy
  omega

/-- The keys of these groups, each gone. -/
def goneL (ks : List Key) (G : List Int) : List Chg := ((rising ks).filter fun k => decide (k.grp ∈ G)).map fun k => goneC k.id
theorem goneL_rise (ks : List Key) (G : List Int) : RiseC (goneL ks G) := List.pairwise_map.2 ((rising_strict ks).sublist List.filter_sublist)
theorem goneL_mem {ks : List Key} (hg : Good ks) {G : List Int} {c : Chg} : c ∈ goneL ks G ↔ ∃ k ∈ ks, k.grp ∈ G ∧ c = goneC k.id := by
  unfold goneL
  simp only [List.mem_map, List.mem_filter, decide_eq_true_iff]
  constructor
  · rintro ⟨k, ⟨h1, h2⟩, rfl⟩; exact ⟨k, (rising_mem hg k).1 h1, h2, rfl⟩
  · rintro ⟨k, h1, h2, rfl⟩; exact ⟨k, ⟨(rising_mem hg k).2 h1, h2⟩, rfl⟩
theorem goneL_len {ks : List Key} (hg : Good ks) (G : List Int) : (goneL ks G).length ≤ ks.length := by
  unfold goneL
  rw [List.length_map]
  exact Nat.le_trans (List.length_filter_le _ _) (Nat.le_of_eq (rising_length hg))
theorem goneL_get {ks : List Key} (hg : Good ks) {G : List Int} (h0 : (0 : Int) ∉ G) (k : Int) : getC (goneL ks G) k = if grpN ks k ∈ G then some (goneC k) else none := by
  split
  · rename_i hm
    cases hf : fnd ks k with
    | none => rw [grpN_none hf] at hm; exact absurd hm h0
    | some key =>
      obtain ⟨h1, h2⟩ := fnd_some hf
      rw [grpN_some hf] at hm
      have := getC_in (goneL_rise ks G) ((goneL_mem hg).2 ⟨key, h1, hm, rfl⟩)
      rw [h2] at this
      exact this
  · rename_i hm
    refine getC_no fun c hc e => ?_
    obtain ⟨key, h1, h2, rfl⟩ := (goneL_mem hg).1 hc
    have e2 : key.id = k := e
    apply hm
    rw [← e2, grpN_some (fnd_mem hg.2 h1)]
    exact h2
theorem gone_step {G : List Int} {l : List Key} {j : Nat} (hj : j < l.length) : ((l.take (j + 1)).filter fun k => decide (k.grp ∈ G)).map (fun k => goneC k.id) = ((l.take j).filter fun k => decide (k.grp ∈ G)).map (fun k => goneC k.id) ++ (if l[j].grp ∈ G then [goneC l[j].id] else []) := by
  rw [tsnoc hj, List.filter_append, List.map_append]
  congr 1
  by_cases h : l[j].grp ∈ G <;> simp [h]

/-- A patch completed. -/
def compl (ks : List Key) (p : List Chg) : List Chg := comp (goneL ks (setsG ks p)) p
theorem compl_rise {ks : List Key} {p : List Chg} (hp : RiseC p) : RiseC (compl ks p) := comp_rise (goneL_rise _ _) hp
theorem compl_get {ks : List Key} (hg : Good ks) {p : List Chg} (hp : RiseC p) (k : Int) : getC (compl ks p) k = (getC p k).or (if grpN ks k ∈ setsG ks p then some (goneC k) else none) := by
  unfold compl
  rw [comp_get (goneL_rise _ _) hp, goneL_get hg setsG_zero]
theorem compl_len {ks : List Key} (hg : Good ks) (p : List Chg) : (compl ks p).length ≤ ks.length + p.length :=
  Nat.le_trans (comp_len _ _) (Nat.add_le_add_right (goneL_len hg _) _)
/-- What is set in it is set in the patch. -/
theorem compl_set {ks : List Key} (hg : Good ks) {p : List Chg} (hp : RiseC p) {c : Chg} (h : c.g = false) : c ∈ compl ks p ↔ c ∈ p := by
  constructor
  · intro hc
    have e := getC_in (compl_rise hp) hc
    rw [compl_get hg hp] at e
    cases h1 : getC p c.key with
    | some d => rw [h1] at e; rw [Option.some_or] at e; rw [← Option.some.inj e]; exact (getC_key h1).1
    | none =>
      rw [h1] at e
      simp only [Option.none_or] at e
      split at e
      · rw [← Option.some.inj e] at h; cases h
      · cases e
  · intro hc
    have e := compl_get hg hp c.key
    rw [getC_in hp hc] at e
    exact (getC_key e).1
theorem compl_sets {ks : List Key} (hg : Good ks) {p : List Chg} (hp : RiseC p) (g : Int) : g ∈ setsG ks (compl ks p) ↔ g ∈ setsG ks p := by
  rw [setsG_mem, setsG_mem]
  constructor
  · rintro ⟨c, h1, h2⟩; exact ⟨c, (compl_set hg hp (setG_some.1 h2).1).1 h1, h2⟩
  · rintro ⟨c, h1, h2⟩; exact ⟨c, (compl_set hg hp (setG_some.1 h2).1).2 h1, h2⟩
theorem compl_nodup {ks : List Key} (hg : Good ks) {p : List Chg} (hp : RiseC p) (hn : (setsG ks p).Nodup) : (setsG ks (compl ks p)).Nodup :=
  nodup_of (compl_rise hp) fun c hc d hd g h1 h2 =>
    congrArg Chg.key (apart_of hn ((compl_set hg hp (setG_some.1 h1).1).1 hc) ((compl_set hg hp (setG_some.1 h2).1).1 hd) h1 h2)
theorem compl_twice {ks : List Key} (hg : Good ks) {p : List Chg} (hp : RiseC p) : compl ks (compl ks p) = compl ks p := by
  refine extC (compl_rise (compl_rise hp)) (compl_rise hp) fun k => ?_
  rw [compl_get hg (compl_rise hp)]
  have e : (grpN ks k ∈ setsG ks (compl ks p)) = (grpN ks k ∈ setsG ks p) := propext (compl_sets hg hp _)
  simp only [e]
  rw [compl_get hg hp]
  cases getC p k with
  | some c => simp
  | none => simp
/-- What Complete answers: the error, and the patch. -/
def cE (ks : List Key) (p : List Chg) : Int := if (setsG ks p).Nodup then 0 else 3
def cL (ks : List Key) (p : List Chg) : List Chg := if (setsG ks p).Nodup then compl ks p else []
theorem cE_yes {ks : List Key} {p : List Chg} (h : (setsG ks p).Nodup) : cE ks p = 0 ∧ cL ks p = compl ks p := by unfold cE cL; rw [if_pos h, if_pos h]; exact ⟨rfl, rfl⟩
theorem cE_no {ks : List Key} {p : List Chg} (h : ¬ (setsG ks p).Nodup) : cE ks p = 3 ∧ cL ks p = [] := by unfold cE cL; rw [if_neg h, if_neg h]; exact ⟨rfl, rfl⟩
/-- A completed patch may be, if the patch may. -/
theorem compl_may {ks : List Key} (hk : ks.length ≤ 64) (hg : Good ks) {p : List Chg} (h : may6 ks p = 0) : may6 ks (compl ks p) = 0 := by
  obtain ⟨hr, ho⟩ := ok_of hk h
  refine may6_get hk (compl_rise hr) fun k c hc => ?_
  rw [compl_get hg hr] at hc
  cases h1 : getC p k with
  | some d => rw [h1] at hc; simp only [Option.some_or] at hc; injection hc with hc; subst hc; exact ho k _ h1
  | none =>
    rw [h1] at hc
    simp only [Option.none_or] at hc
    split at hc
    · rename_i hm
      injection hc with hc
      subst hc
      cases hf : fnd ks k with
      | none => rw [grpN_none hf] at hm; exact absurd hm setsG_zero
      | some key => simp [okC, isIn, hf, zv]
    · cases hc
/-- Behind a completed patch a set has what the patch sets; of the others of its group it has none. -/
theorem compl_has {ks : List Key} (hg : Good ks) {p : List Chg} (hp : RiseC p) {a : List Att} (ha : Rise a) {c : Chg} (hc : c ∈ p) (h : c.g = false) : getA (app a (compl ks p)) c.key = some (toA c) := by
  rw [app_get ha (compl_rise hp), compl_get hg hp, getC_in hp hc]
  simp [ck, h]
theorem compl_none {ks : List Key} (hg : Good ks) {p : List Chg} (hp : RiseC p) (hn : (setsG ks p).Nodup) {a : List Att} (ha : Rise a) {c : Chg} (hc : c ∈ p) (h : c.g = false) {o : Int} (ho : o ∈ grpOf ks c.key) : getA (app a (compl ks p)) o = none := by
  unfold grpOf at ho
  cases hf : fnd ks c.key with
  | none => rw [hf] at ho; cases ho
  | some k =>
    rw [hf] at ho
    simp only at ho
    split at ho
    · cases ho
    · rename_i h0
      simp only [List.mem_map, List.mem_filter, Bool.and_eq_true, beq_iff_eq, bne_iff_ne] at ho
      obtain ⟨o', ⟨h1, h2, h3⟩, rfl⟩ := ho
      have hset : setG ks c = some k.grp := setG_some.2 ⟨h, grpN_some hf, h0⟩
      have hgo : grpN ks o'.id = k.grp := by rw [grpN_some (fnd_mem hg.2 ((rising_mem hg o').1 h1))]; exact h2
      rw [app_get ha (compl_rise hp), compl_get hg hp]
      cases hd : getC p o'.id with
      | some d =>
        obtain ⟨d1, d2⟩ := getC_key hd
        have hdg : d.g = true := by
          cases hq : d.g with
          | true => rfl
          | false =>
            have : setG ks d = some k.grp := setG_some.2 ⟨hq, by rw [d2]; exact hgo, h0⟩
            have := apart_of hn d1 hc this hset
            rw [this] at d2
            exact absurd d2.symm h3
        simp [ck, hdg]
      | none =>
        have hm : grpN ks o'.id ∈ setsG ks p := by rw [hgo]; exact setsG_mem.2 ⟨c, hc, hset⟩
        simp [ck, hm]

/-- The attributes whose keys are the schema's, and wanted. -/
def okW (ks : List Key) (f : Key → Bool) (id : Int) : Bool := (fnd ks id).isSome && f ((fnd ks id).getD noKey)
def only (ks : List Key) (f : Key → Bool) (xs : List Att) : List Att := xs.filter fun a => okW ks f a.key
theorem only_yes {ks : List Key} {f : Key → Bool} {xs : List Att} {k : Nat} (h : k < xs.length) (hb : okW ks f xs[k].key = true) : only ks f (xs.take (k + 1)) = only ks f (xs.take k) ++ [xs[k]] := by
  unfold only; rw [atake_snoc h, List.filter_append]; simp [hb]
theorem only_no {ks : List Key} {f : Key → Bool} {xs : List Att} {k : Nat} (h : k < xs.length) (hb : okW ks f xs[k].key = false) : only ks f (xs.take (k + 1)) = only ks f (xs.take k) := by
  unfold only; rw [atake_snoc h, List.filter_append]; simp [hb]
theorem only_le (ks : List Key) (f : Key → Bool) (xs : List Att) : (only ks f xs).length ≤ xs.length := List.length_filter_le _ _
theorem only_end (ks : List Key) (f : Key → Bool) (xs : List Att) : only ks f (xs.take xs.length) = only ks f xs := by rw [tend]
theorem only_rise {ks : List Key} {f : Key → Bool} {xs : List Att} (h : Rise xs) : Rise (only ks f xs) := h.sublist List.filter_sublist
theorem only_only (ks : List Key) (f : Key → Bool) (xs : List Att) : only ks f (only ks f xs) = only ks f xs := by unfold only; rw [List.filter_filter]; simp
theorem only_get {ks : List Key} {f : Key → Bool} {xs : List Att} (h : Rise xs) (k : Int) : getA (only ks f xs) k = if okW ks f k = true then getA xs k else none := by
  have hr := only_rise (ks := ks) (f := f) h
  cases hx : getA (only ks f xs) k with
  | some a =>
    obtain ⟨h1, h2⟩ := getA_key hx
    obtain ⟨h3, h4⟩ := List.mem_filter.1 h1
    have h4 : okW ks f a.key = true := h4
    rw [h2] at h4
    rw [if_pos h4, ← h2, getA_in h h3]
  | none =>
    split
    · rename_i hk
      cases hy : getA xs k with
      | none => rfl
      | some a =>
        obtain ⟨h1, h2⟩ := getA_key hy
        have := getA_in hr (List.mem_filter.2 ⟨h1, by rw [h2]; exact hk⟩)
        rw [h2, hx] at this
        cases this
    · rfl
def fS (k : Key) : Bool := k.blk && k.aft
def fA (k : Key) : Bool := !k.blk && k.aft
def fB (k : Key) : Bool := !k.blk && k.bef
/-- What is typed between two. -/
def typ (ks : List Key) (l r : List Att) : List Att := app (only ks fB r) (diff6 [] (only ks fA l))
theorem typ_rise {ks : List Key} {l r : List Att} (hl : Rise l) (hr : Rise r) : Rise (typ ks l r) := app_rise (only_rise hr) (diff_rise rise_nil (only_rise hl))
theorem typ_get {ks : List Key} {l r : List Att} (hl : Rise l) (hr : Rise r) (k : Int) : getA (typ ks l r) k = (getA (only ks fA l) k).or (getA (only ks fB r) k) := by
  unfold typ
  rw [app_get (only_rise hr) (diff_rise rise_nil (only_rise hl)), diff_get rise_nil (only_rise hl)]
  cases getA (only ks fA l) k with
  | none => rfl
  | some x => rfl
theorem typ_len (ks : List Key) (l r : List Att) : (typ ks l r).length ≤ l.length + r.length := by
  have h1 := app_len (only ks fB r) (diff6 [] (only ks fA l))
  have h2 := diff6_len [] (only ks fA l)
  have h3 := only_le ks fA l
  have h4 := only_le ks fB r
  unfold typ
  simp only [List.length_nil] at h2
  omega
theorem typ_nil (ks : List Key) : typ ks [] [] = [] := by
  have h := typ_len ks [] []
  exact List.eq_nil_of_length_eq_zero (by simpa using h)
end Go.Proofs.Ythcakinllcffoaa
