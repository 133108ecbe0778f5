
import Derived.Test.YtoienmcgcefdiaaS14
import Derived.Test.YtoienmcgcefdiaaS16
import Derived.Deep.RegionHeld
import Derived.Laws.StructEq
/- S20: words for SchemaGroups -/
namespace Go.Proofs.Ytoienmcgcefdiaa
open Go.RowKit
set_option linter.unusedVariables false

/-- A key against a key. -/
theorem key_eql (a b : Key) (w : World) :
    (binOp .eql 32 (kv a) (kv b)).run Try.prog w = .ok (.bool (keq a b)) w := by
  have hS : Try.prog.underlying 32 = some (.struct (Try.prog.fieldsOf 32)) := by kernel_rfl
  have hp : Try.prog.stoodInHeld 32 = false := by kernel_rfl
  have u1 := Try.underlying3
  have u2 := Try.underlying4
  have u3 := Try.underlying5
  have a1 := Try.isAgg3
  have a2 := Try.isAgg4
  have a3 := Try.isAgg5
  have z1 := Try.sizeOf3
  have z2 := Try.sizeOf4
  have z3 := Try.sizeOf5
  obtain ⟨x1, x2, x3, x4, x5, x6⟩ := a
  obtain ⟨y1, y2, y3, y4, y5, y6⟩ := b
  rw [run_eql_struct, show (10000 : Nat) = 9999 + 1 from rfl, run_equalIn_agg w 9999 32 _ _ hS hp]
  simp only [Program.fieldsOf, Try.underlying32, keq]
  go_simp
  by_cases h1 : x1 = y1 <;> by_cases h2 : x2 = y2 <;> by_cases h3 : x3 = y3 <;> by_cases h4 : x4 = y4 <;> by_cases h5 : x5 = y5 <;> by_cases h6 : x6 = y6 <;> simp [h1, h2, h3, h4, h5, h6]
theorem key_neq (a b : Key) (w : World) :
    (binOp .neq 32 (kv a) (kv b)).run Try.prog w = .ok (.bool !(keq a b)) w := by
  have h := key_eql a b w
  rw [run_eql_struct] at h
  rw [run_neq_struct]
  cases hx : (Op.equalIn 10000 32 (kv a) (kv b)).run Try.prog w with
  | ok b1 w1 =>
    rw [hx] at h
    simp only [Result.andThen_ok, Result.ok.injEq, Value.bool.injEq] at h
    obtain ⟨h1, h2⟩ := h
    subst h2
    simp only [Result.andThen_ok, h1]
  | halt x w1 => rw [hx] at h; simp [Result.andThen] at h

/-! a region that draws its order, walked by hand: values and what is passed over first, then the calls as they wait for one another -/
section
variable {P : Program} {l : List Oper} {Q : Exit → Act → World → Prop} {md : Region.Mode} {S : World → Prop} {fuel : Nat} {listed : Array Bool} {a : Act} {w : World}
theorem h_val {i : Nat} {oi : Oper} {v : Value} (hi : l[i]? = some oi) (hs : Region.noSelect l.toArray = true) (hf : Region.free md l.toArray listed i = true) (hr : (Region.ready md l.toArray listed).contains i = true)
    (hQ : ∀ c a w, Q (.panic c) (a.put oi.dst v) w → Q (.panic c) a w) (hw : Region.wanted oi (yielded l.toArray a.tmps) = true) (hv : ∀ w, S w → (execOp a.eval oi).run P w = .ok (.value v) w) (hS : S w)
    (h : wpAnyH P md l.toArray Q S fuel (listed.setIfInBounds i true) (a.put oi.dst v) w) : wpAnyH P md l.toArray Q S (fuel + 1) listed a w :=
  wpAnyH_take (by simpa using hi) hs hf hr hQ (.inl ⟨hw, hv⟩) hS h
theorem h_skip {i : Nat} {oi : Oper} (hi : l[i]? = some oi) (hs : Region.noSelect l.toArray = true) (hf : Region.free md l.toArray listed i = true) (hr : (Region.ready md l.toArray listed).contains i = true)
    (hQ : ∀ c a w, Q (.panic c) (a.put oi.dst undef) w → Q (.panic c) a w) (hw : Region.wanted oi (yielded l.toArray a.tmps) = false) (hS : S w)
    (h : wpAnyH P md l.toArray Q S fuel (listed.setIfInBounds i true) (a.put oi.dst undef) w) : wpAnyH P md l.toArray Q S (fuel + 1) listed a w :=
  wpAnyH_take (by simpa using hi) hs hf hr hQ (.inr ⟨hw, rfl⟩) hS h
theorem h_call {i : Nat} {oi : Oper} {f : FuncId} {args : Array Value} (hi : l[i]? = some oi) (hr : Region.ready md l.toArray listed = [i]) (hw : Region.wanted oi (yielded l.toArray a.tmps) = true)
    (hv : (execOp a.eval oi).run P w = .ok (.enter f args) w)
    (hc : Calls P f args w fun e w' => ∃ v, e = .returned v ∧ S w' ∧ wpAnyH P md l.toArray Q S fuel (listed.setIfInBounds i true) (a.put oi.dst v) w') : wpAnyH P md l.toArray Q S (fuel + 1) listed a w := by
  refine wpAnyH_all hr (by simp) fun j hj => ?_
  simp at hj
  subst hj
  have hi2 : l.toArray[j]? = some oi := by simpa using hi
  unfold wpOp
  simp only [hi2, hw, if_true]
  left
  unfold Oper.wp
  rw [hv]
  simp only [Oper.upon]
  refine hc.mono fun e w' ⟨v, he, h1, h2⟩ => ?_
  subst he
  exact ⟨h1, h2⟩
theorem h_start {id : Nat} (hm : P.follows .mixedOrders = true) (h : wpAnyH P .any l.toArray Q S l.toArray.size (Array.replicate l.toArray.size false) a w.drew) : (Code.region id l.toArray true).wp P Q a w := wp_region_held hm h
theorem h_done (hr : Region.ready md l.toArray listed = []) (h : Q .normal a w) : wpAnyH P md l.toArray Q S fuel listed a w := wpAnyH_done hr h _
end

theorem mayKs_reverse (ks : List Key) : mayKs ks.reverse ↔ mayKs ks := by
  have hp : ks.reverse.Perm ks := List.reverse_perm ks
  constructor
  · rintro ⟨h1, h2, h3⟩
    exact ⟨by simpa using h1, fun k hk => h2 k (by simpa using hk), h3.perm hp.symm⟩
  · rintro ⟨h1, h2, h3⟩
    exact ⟨by simpa using h1, fun k hk => h2 k (by simpa using hk), h3.perm hp⟩
theorem rising_reverse {ks : List Key} (h : Good ks) : rising ks.reverse = rising ks := rising_of_perm h (List.reverse_perm ks)

/-- The row from behind: j keys are in. -/
def BackRel (w : World) (ks : List Key) (j : Nat) (v : Value) (wr : World) : Prop :=
  wr.ownsRow w.heap.size 32 6 v (ks.reverse.take j).length (flat (ks.reverse.take j)) ∧ Below w.heap.size w wr
theorem back_init (w : World) (ks : List Key) : BackRel w ks 0 (.slice none 0 0) w := ⟨⟨by simp [flat_nil], .inl ⟨rfl, by simp⟩⟩, Below.refl _ _⟩
theorem back_elem {ks : List Key} {j : Nat} (hj : j < ks.length) : ks.reverse[j]'(by simpa using hj) = ks[ks.length - 1 - j]'(by omega) := by simp
theorem back_step {w wr wx w3 : World} {ks : List Key} {j : Nat} {v v3 : Value} {c : Key} (h : BackRel w ks j v wr) (hj : j < ks.length) (hc : ks[ks.length - 1 - j]'(by omega) = c) (hb : Below wr.heap.size wr wx)
    (hown : w3.ownsRow w.heap.size 32 6 v3 ((ks.reverse.take j).length + 1) (flat (ks.reverse.take j) ++ kc c)) (hg : wx.grownBy w3 v.ownBlock) : BackRel w ks (j + 1) v3 w3 := by
  obtain ⟨h2, h3⟩ := h
  have hjr : j < ks.reverse.length := by simpa using hj
  have hce : ks.reverse[j] = c := by rw [← hc]; exact back_elem hj
  unfold BackRel
  rw [ktake_snoc _ _ hjr, hce]
  simp only [List.length_append, List.length_singleton, flat_app, flat_one]
  exact ⟨hown, (below_add h3 hb h3.size).grown hg (Nat.le_trans h3.size hb.size) (fun k hk => (h2.lt k hk).1)⟩
theorem back_end {w wr : World} {ks : List Key} {v : Value} (h : BackRel w ks ks.length v wr) : Krow wr v ks.reverse ∧ Below w.heap.size w wr := by
  obtain ⟨h1, h2⟩ := h
  rw [List.take_of_length_le (by simp)] at h1
  exact ⟨(Krow.of_owns h1).1, h2⟩
theorem keyW_reverse {ks : List Key} (h : ∀ k ∈ ks, KeyW k) : ∀ k ∈ ks.reverse, KeyW k := fun k hk => h k (by simpa using hk)

/-- Groups are both ways. -/
theorem groups_both {ks : List Key} (hg : Good ks) {a b : Key} (ha : a ∈ ks) (hb : b ∈ ks) : hasB (grpOf ks a.id) b.id = hasB (grpOf ks b.id) a.id := by
  have key : ∀ {a b : Key}, a ∈ ks → b ∈ ks → (hasB (grpOf ks a.id) b.id = true ↔ a.grp ≠ 0 ∧ a.grp = b.grp ∧ a.id ≠ b.id) := by
    intro a b ha hb
    rw [hasB_iff]
    by_cases h0 : a.grp = 0
    · rw [grpOf_zero (fnd_mem hg.2 ha) h0]; simp [h0]
    · rw [grpOf_sel (fnd_mem hg.2 ha) h0]
      unfold sel grpP
      simp only [List.mem_map, List.mem_filter, Bool.and_eq_true, beq_iff_eq, bne_iff_ne, ne_eq]
      constructor
      · rintro ⟨o, ⟨h1, h2, h3⟩, h4⟩
        have hob : o = b := by
          have e1 := fnd_mem hg.2 ((rising_mem hg o).1 h1)
          rw [h4, fnd_mem hg.2 hb] at e1
          injection e1 with e1
          exact e1.symm
        subst hob
        exact ⟨h0, h2.symm, fun e => h3 e.symm⟩
      · rintro ⟨-, h2, h3⟩
        exact ⟨b, ⟨(rising_mem hg b).2 hb, h2.symm, fun e => h3 e.symm⟩, rfl⟩
  rw [Bool.eq_iff_iff, key ha hb, key hb ha]
  constructor
  · rintro ⟨h1, h2, h3⟩; exact ⟨by rw [← h2]; exact h1, h2.symm, fun e => h3 e.symm⟩
  · rintro ⟨h1, h2, h3⟩; exact ⟨by rw [← h2]; exact h1, h2.symm, fun e => h3 e.symm⟩
theorem groups_own {ks : List Key} (hg : Good ks) {a : Key} (ha : a ∈ ks) : hasB (grpOf ks a.id) a.id = false := by
  rw [← Bool.not_eq_true, hasB_iff]
  intro h
  by_cases h0 : a.grp = 0
  · rw [grpOf_zero (fnd_mem hg.2 ha) h0] at h; cases h
  · rw [grpOf_sel (fnd_mem hg.2 ha) h0] at h
    unfold sel grpP at h
    simp at h
    obtain ⟨o, ⟨_, _, h3⟩, h4⟩ := h
    exact h3 h4
end Go.Proofs.Ytoienmcgcefdiaa
