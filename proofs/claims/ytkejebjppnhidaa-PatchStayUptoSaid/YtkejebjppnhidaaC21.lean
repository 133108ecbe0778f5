
import Derived.Test.YtkejebjppnhidaaC16
import Derived.Test.YtkejebjppnhidaaC7
/- C21: the parts of a patch, as plain data; what may be -/
namespace Go.Proofs.Ytkejebjppnhidaa
open Go.RowKit
set_option linter.unusedVariables false

theorem may6_zero {ks : List Key} {xs : List Chg} : may6 ks xs = 0 ↔ wf6 xs = true ∧ okV (ats xs) = true ∧ okF5 ks (ats xs) = true ∧ xs.all (isIn ks) = true := by
  unfold may6
  cases h1 : wf6 xs <;> cases h2 : okV (ats xs) <;> cases h3 : okF5 ks (ats xs) <;> cases h4 : xs.all (isIn ks) <;> simp
theorem part_rise {ks : List Key} {blk : Bool} {p : List Chg} (h : RiseC p) : RiseC (part6 ks blk p) := h.sublist List.filter_sublist
theorem part_get {ks : List Key} {blk : Bool} {p : List Chg} (h : RiseC p) (k : Int) : getC (part6 ks blk p) k = (getC p k).filter (partC ks blk) := by
  induction p with
  | nil => rfl
  | cons x r ih =>
    obtain ⟨hr, hx⟩ := rise_gt h
    have hn : x.key = k → getC r k = none := fun h => getC_no fun c hc => by have := hx c hc; omega
    have e : part6 ks blk (x :: r) = if partC ks blk x then x :: part6 ks blk r else part6 ks blk r := by unfold part6; rw [List.filter_cons]
    rw [e, getC_cons]
    cases hp : partC ks blk x
    · simp only [Bool.false_eq_true, if_false]
      rw [ih hr]
      by_cases hk : x.key = k
      · rw [if_pos hk, hn hk]; simp [Option.filter, hp]
      · rw [if_neg hk]
    · simp only [if_true]
      rw [getC_cons, ih hr]
      by_cases hk : x.key = k
      · rw [if_pos hk, if_pos hk]; simp [Option.filter, hp]
      · rw [if_neg hk, if_neg hk]
theorem partC_not {ks : List Key} {c : Chg} (h : isIn ks c = true) : partC ks false c = !partC ks true c := by
  unfold isIn at h
  obtain ⟨k, hk⟩ := Option.isSome_iff_exists.1 h
  rw [partC_some hk, partC_some hk]
  cases k.blk <;> rfl
theorem part_sum {ks : List Key} {p : List Chg} (h : p.all (isIn ks) = true) : (part6 ks false p).length + (part6 ks true p).length = p.length := by
  induction p with
  | nil => rfl
  | cons x r ih =>
    rw [List.all_cons, Bool.and_eq_true] at h
    have := ih h.2
    unfold part6 at *
    rw [List.filter_cons, List.filter_cons, partC_not h.1]
    cases partC ks true x <;> simp <;> omega
theorem parts_app {ks : List Key} {a : List Att} {p : List Chg} (ha : Rise a) (hp : RiseC p) (hin : p.all (isIn ks) = true) (blk : Bool) : app (app a (part6 ks blk p)) (part6 ks (!blk) p) = app a p := by
  refine extA (app_rise (app_rise ha (part_rise hp)) (part_rise hp)) (app_rise ha hp) fun k => ?_
  rw [app_get (app_rise ha (part_rise hp)) (part_rise hp), app_get ha (part_rise hp), app_get ha hp, part_get hp, part_get hp]
  cases h : getC p k with
  | none => rfl
  | some c =>
    have hi := List.all_eq_true.1 hin c (getC_key h).1
    have hn := partC_not hi
    cases blk <;> cases ht : partC ks true c <;> simp [Option.filter, hn, ht, ck]
theorem app_twice {a : List Att} {p : List Chg} (ha : Rise a) (hp : RiseC p) : app (app a p) p = app a p := by
  refine extA (app_rise (app_rise ha hp) hp) (app_rise ha hp) fun k => ?_
  rw [app_get (app_rise ha hp) hp, app_get ha hp]
  cases getC p k <;> rfl
theorem getA_in : ∀ {l : List Att} {c : Att}, Rise l → c ∈ l → getA l c.key = some c
  | x :: r, c, hr, hc => by
    obtain ⟨h1, h2⟩ := List.pairwise_cons.1 hr
    unfold getA
    rw [List.find?_cons]
    rcases List.mem_cons.1 hc with rfl | hc
    · simp
    · rw [show (x.key == c.key) = false by have := h1 c hc; simp; omega]
      exact getA_in h2 hc
theorem app_leaves {a : List Att} {p : List Chg} (ha : Rise a) (hp : RiseC p) {c : Att} (hc : c ∈ a) (hn : getC p c.key = none) : getA (app a p) c.key = some c := by
  rw [app_get ha hp, hn]
  exact getA_in ha hc

/-! What may be stays so -/
theorem in_few {ks : List Key} {xs : List Chg} (hr : RiseC xs) (hf : xs.all (isIn ks) = true) : xs.length ≤ ks.length := by
  have := nodup_le (xs.map (·.key)) (ks.map (·.id)) ?_ ?_
  · simpa using this
  · refine (List.pairwise_map.2 ?_)
    exact hr.imp fun h => by omega
  · intro x hx
    obtain ⟨a, ha, rfl⟩ := List.mem_map.1 hx
    have hi := List.all_eq_true.1 hf a ha
    unfold isIn at hi
    obtain ⟨k, hk⟩ := Option.isSome_iff_exists.1 hi
    exact List.mem_map.2 ⟨k, (fnd_some hk).1, (fnd_some hk).2⟩
/-- A change that may be one. -/
def okC (ks : List Key) (c : Chg) : Bool := isIn ks c && (if c.g then zv c else fitsB ks c.key c.k c.n c.f c.s)
theorem may6_iff {ks : List Key} (hk : ks.length ≤ 64) {xs : List Chg} : may6 ks xs = 0 ↔ RiseC xs ∧ ∀ c ∈ xs, okC ks c = true := by
  rw [may6_zero]
  constructor
  · rintro ⟨h1, h2, h3, h4⟩
    obtain ⟨hr, hl, hg⟩ := wf6_parts h1
    refine ⟨hr, fun c hc => ?_⟩
    unfold okC
    rw [List.all_eq_true.1 h4 c hc, Bool.true_and]
    have hgc := List.all_eq_true.1 hg c hc
    unfold gOk at hgc
    cases h : c.g
    · have : toA c ∈ ats xs := List.mem_map.2 ⟨c, List.mem_filter.2 ⟨hc, by simp [h]⟩, rfl⟩
      simpa using okF_mem.1 h3 _ this
    · simpa [h] using hgc
  · rintro ⟨hr, h⟩
    have hin : xs.all (isIn ks) = true := List.all_eq_true.2 fun c hc => by have := h c hc; unfold okC at this; rw [Bool.and_eq_true] at this; exact this.1
    have hl := in_few hr hin
    have hg : xs.all gOk = true := List.all_eq_true.2 fun c hc => by
      have := h c hc
      unfold okC at this
      rw [Bool.and_eq_true] at this
      unfold gOk
      cases hh : c.g
      · rfl
      · simpa [hh] using this.2
    have hf : okF5 ks (ats xs) = true := okF_mem.2 fun a ha => by
      obtain ⟨c, hc, hcg, rfl⟩ := ats_sub a ha
      have := h c hc
      unfold okC at this
      rw [Bool.and_eq_true] at this
      simpa [hcg] using this.2
    exact ⟨wf6_good hr (by omega) hg, okV_mem.2 fun a ha => (fits_in (okF_mem.1 hf a ha)).2, hf, hin⟩
theorem may6_get {ks : List Key} (hk : ks.length ≤ 64) {xs : List Chg} (hr : RiseC xs) (h : ∀ k c, getC xs k = some c → okC ks c = true) : may6 ks xs = 0 :=
  (may6_iff hk).2 ⟨hr, fun c hc => h c.key c (getC_in hr hc)⟩
theorem ok_of {ks : List Key} (hk : ks.length ≤ 64) {xs : List Chg} (h : may6 ks xs = 0) : RiseC xs ∧ ∀ k c, getC xs k = some c → okC ks c = true :=
  ⟨((may6_iff hk).1 h).1, fun k c hc => ((may6_iff hk).1 h).2 c (getC_key hc).1⟩
theorem fitA {ks : List Key} (hk : ks.length ≤ 64) {a : List Att} (h : may5 ks a = 0) : Rise a ∧ ∀ k x, getA a k = some x → fitsB ks x.key x.k x.n x.f x.s = true :=
  ⟨((may_iff hk).1 h).1, fun k x hx => okF_mem.1 ((may_iff hk).1 h).2 x (getA_key hx).1⟩
theorem in_toC {ks : List Key} {x : Att} (h : fitsB ks x.key x.k x.n x.f x.s = true) : isIn ks (toC x) = true := by
  unfold isIn
  cases hf : fnd ks x.key with
  | none => rw [fitsB_none hf] at h; cases h
  | some k => simp
theorem okC_toC {ks : List Key} {x : Att} (h : fitsB ks x.key x.k x.n x.f x.s = true) : okC ks (toC x) = true := by
  unfold okC
  rw [in_toC h]
  simpa using h
theorem okC_gone {ks : List Key} {x : Att} (h : fitsB ks x.key x.k x.n x.f x.s = true) : okC ks (goneC x.key) = true := by
  unfold okC isIn
  cases hf : fnd ks x.key with
  | none => rw [fitsB_none hf] at h; cases h
  | some k => simp [zv]
theorem may_diff {ks : List Key} (hk : ks.length ≤ 64) {a b : List Att} (ha : may5 ks a = 0) (hb : may5 ks b = 0) : may6 ks (diff6 a b) = 0 := by
  obtain ⟨ra, fa⟩ := fitA hk ha
  obtain ⟨rb, fb⟩ := fitA hk hb
  refine may6_get hk (diff_rise ra rb) fun k c hc => ?_
  rw [diff_get ra rb] at hc
  cases h1 : getA a k with
  | none =>
    cases h2 : getA b k with
    | none => rw [h1, h2] at hc; cases hc
    | some y => rw [h1, h2] at hc; simp [dk] at hc; subst hc; exact okC_toC (fb k y h2)
  | some x =>
    cases h2 : getA b k with
    | none => rw [h1, h2] at hc; simp [dk] at hc; subst hc; exact okC_gone (fa k x h1)
    | some y =>
      rw [h1, h2] at hc
      simp only [dk] at hc
      split at hc
      · cases hc
      · injection hc with hc; subst hc; exact okC_toC (fb k y h2)
theorem may_comp {ks : List Key} (hk : ks.length ≤ 64) {p q : List Chg} (hp : may6 ks p = 0) (hq : may6 ks q = 0) : may6 ks (comp p q) = 0 := by
  obtain ⟨rp, fp⟩ := ok_of hk hp
  obtain ⟨rq, fq⟩ := ok_of hk hq
  refine may6_get hk (comp_rise rp rq) fun k c hc => ?_
  rw [comp_get rp rq] at hc
  cases h : getC q k with
  | none => rw [h] at hc; exact fp k c hc
  | some y => rw [h] at hc; simp at hc; subst hc; exact fq k y h
theorem may_less {ks : List Key} (hk : ks.length ≤ 64) {p q : List Chg} (hp : may6 ks p = 0) (hq : may6 ks q = 0) : may6 ks (less p q) = 0 := by
  obtain ⟨rp, fp⟩ := ok_of hk hp
  obtain ⟨rq, fq⟩ := ok_of hk hq
  refine may6_get hk (less_rise rp rq) fun k c hc => ?_
  rw [less_get rp rq] at hc
  split at hc
  · cases hc
  · exact fp k c hc
theorem may_part6 {ks : List Key} (hk : ks.length ≤ 64) {p : List Chg} (hp : may6 ks p = 0) (blk : Bool) : may6 ks (part6 ks blk p) = 0 := by
  rw [may6_iff hk] at *
  exact ⟨part_rise hp.1, fun c hc => hp.2 c (List.mem_filter.1 hc).1⟩
theorem may_app {ks : List Key} (hk : ks.length ≤ 64) {a : List Att} {p : List Chg} (ha : may5 ks a = 0) (hp : may6 ks p = 0) : may5 ks (app a p) = 0 := by
  obtain ⟨ra, fa⟩ := fitA hk ha
  obtain ⟨rp, fp⟩ := ok_of hk hp
  have hr := app_rise ra rp
  refine (may_iff hk).2 ⟨hr, okF_mem.2 fun x hx => ?_⟩
  have h := getA_in hr hx
  rw [app_get ra rp] at h
  cases hc : getC p x.key with
  | none => rw [hc] at h; exact fa _ x h
  | some c =>
    rw [hc] at h
    simp only [ck] at h
    cases hg : c.g
    · rw [hg] at h
      simp at h
      subst h
      have := fp _ c hc
      unfold okC at this
      rw [hg, Bool.and_eq_true] at this
      simpa using this.2
    · rw [hg] at h; cases h
theorem may_inv {ks : List Key} (hk : ks.length ≤ 64) {a : List Att} {p : List Chg} (ha : may5 ks a = 0) (hp : may6 ks p = 0) : may6 ks (inv a p) = 0 := may_diff hk (may_app hk ha hp) ha
end Go.Proofs.Ytkejebjppnhidaa
