
import Derived.Test.YtiobcifpebehnaaDoorS3
import Derived.Test.YtiobcifpebehnaaDoorS4
import Derived.Maps.RangeWalk
/- S7: a schema -/
namespace Go.Proofs.YtiobcifpebehnaaDoor
open Go.RowKit
set_option linter.unusedVariables false

/-- A schema of these keys: none, a zero one, one with a map. -/
def Sch (w : World) (v : Value) (ks : List Key) : Prop :=
  Good ks ∧ ((v = .pointer none ∧ ks = []) ∨
    (∃ s, v = .pointer (some ⟨s, 0, none⟩) ∧ w.cell? ⟨s, 0, none⟩ = some (.map none) ∧ ks = []) ∨
    (∃ s b, v = .pointer (some ⟨s, 0, none⟩) ∧ w.cell? ⟨s, 0, none⟩ = some (.map (some b)) ∧ w.ownsMap Tryd.prog 3 keyElem b 64 (dat ks)))
theorem owns_blk {w w' : World} {P : Program} {k : TypeId} {R : Value → Option (DataW Key × List MemPlace)} {b n : Nat} {D : DataW Key} {B : Nat} (h : w.ownsMap P k R b n D) (hb : Below B w w') (hB : w.heap.size ≤ B) : w'.ownsMap P k R b n D := by
  have hlt := h.lt
  obtain ⟨es, clock, hh, rest⟩ := h
  exact ⟨es, clock, (hb.block b (Nat.lt_of_lt_of_le hlt hB)).trans hh, rest⟩
theorem Sch.below {B : Nat} {w w' : World} {v : Value} {ks : List Key} (h : Sch w v ks) (hb : Below B w w') (hB : w.heap.size ≤ B) : Sch w' v ks := by
  obtain ⟨hg, h⟩ := h
  refine ⟨hg, ?_⟩
  rcases h with h | ⟨s, rfl, hc, rfl⟩ | ⟨s, b, rfl, hc, ho⟩
  · exact .inl h
  · exact .inr (.inl ⟨s, rfl, (hb.cell (p := ⟨s, 0, none⟩) (Nat.lt_of_lt_of_le (World.block_lt_of_cell? w _ hc) hB)).trans hc, rfl⟩)
  · exact .inr (.inr ⟨s, b, rfl, (hb.cell (p := ⟨s, 0, none⟩) (Nat.lt_of_lt_of_le (World.block_lt_of_cell? w _ hc) hB)).trans hc, owns_blk ho hb hB⟩)
theorem Sch.few {w : World} {v : Value} {ks : List Key} (h : Sch w v ks) : ks.length ≤ 64 := by
  obtain ⟨hg, h⟩ := h
  rcases h with ⟨_, rfl⟩ | ⟨s, _, _, rfl⟩ | ⟨s, b, rfl, hc, ho⟩
  · simp
  · simp
  · have := ho.size_le
    rwa [dat_size hg.2] at this

theorem kbelow_two (w : World) (o1 o2 : Obj) : Below w.heap.size w ((w.alloc o1).alloc o2) := ((Below.refl _ _).alloc (Nat.le_refl _) _).alloc (by simp) _

theorem keyedInt : Maps.Keyed Tryd.prog 3 := Maps.int_keyed Tryd.underlying3
theorem zeroKey (w : World) : (zeroValue 67).run Tryd.prog w = .ok (kv noKey) w := by kernel_rfl
theorem intKey {n : Int} (h : (Lit.int .i64 n).wf = true) : keyOf Tryd.prog 3 (.int .i64 n) = some (.int .i64 n) := Maps.keyOf_int_mk Tryd.underlying3 h

set_option maxRecDepth 100000 in
/-- 'v, ok := m[id]' of a schema's map: the run. -/
theorem look_key {w : World} {b n : Nat} {ks : List Key} (hA : Apart ks) (hown : w.ownsMap Tryd.prog 3 keyElem b n (dat ks)) {id : Int} (hw : (Lit.int .i64 id).wf = true) {kk : Key} {bb : Bool} (hk : (fnd ks id).getD noKey = kk) (hb : (fnd ks id).isSome = bb) :
    (Instr.lookup 74 (.map (some b)) (.int .i64 id) true).run Tryd.prog w = .ok (.tuple #[kv kk, .bool bb]) w := by
  obtain ⟨v, ps, hrun, hR⟩ := hown.look_ok keyedInt Tryd.underlying74 (zeroKey w) (keyElem_mk noKey) (intKey hw)
  obtain ⟨k', rfl, hz⟩ := keyElem_inv hR
  rw [dat_at hA, hk] at hz
  injection hz with h1 _
  injection h1 with h1
  subst h1
  rw [hrun, dat_has, hb]

set_option maxRecDepth 100000 in
theorem find_none (id : Int) (w : World) :
    Calls Tryd.prog 54 #[.pointer none, .int .i64 id] w fun e w' => e = .returned (fndV [] id) ∧ Below w.heap.size w w' := by
  go_enter Tryd.func54, Tryd.ntmps54
  go_wp2
  exact bodyPost_ret (v := .tuple #[kv noKey, .bool false]) (by simp [results, Tryd.results54, go_sem]) rfl ⟨rfl, (Below.refl _ _).alloc (Nat.le_refl _) _⟩

@[reducible] def zc : Array Value := #[.int .i64 0, .bool false, .int .u8 0, .bool false, .bool false, .int .i64 0]
theorem cell_on {w : World} {s : Nat} {v : Value} (hc : w.cell? ⟨s, 0, none⟩ = some v) (o : Obj) : (w.alloc o).cell? ⟨s, 0, none⟩ = some v :=
  (((Below.refl w.heap.size w).alloc (Nat.le_refl _) o).cell (p := ⟨s, 0, none⟩) (World.block_lt_of_cell? w _ hc)).trans hc

set_option maxRecDepth 100000 in
theorem find_any (v : Value) (ks : List Key) (id : Int) (w : World) (hs : Sch w v ks) (hw : (Lit.int .i64 id).wf = true) :
    Calls Tryd.prog 54 #[v, .int .i64 id] w fun e w' => e = .returned (fndV ks id) ∧ Below w.heap.size w w' := by
  obtain ⟨hg, h⟩ := hs
  rcases h with ⟨rfl, rfl⟩ | ⟨s, rfl, hc, rfl⟩ | ⟨s, b, rfl, hc, ho⟩
  · exact find_none id w
  · clear hg
    have hlk := Maps.look_nil (P := Tryd.prog) (w := w.alloc (.cells zc 67)) true keyedInt Tryd.underlying74 (zeroKey _) (intKey hw)
    simp only [if_true] at hlk
    have hc2 := cell_on hc (.cells zc 67)
    go_enter Tryd.func54, Tryd.ntmps54
    go_wp2
    exact bodyPost_ret (v := .tuple #[kv noKey, .bool false]) (by simp [results, Tryd.results54, go_sem]) rfl ⟨rfl, kbelow_two w _ _⟩
  · unfold fndV
    have hlk := fun (w' : World) (h : w'.ownsMap Tryd.prog 3 keyElem b 64 (dat ks)) => look_key hg.2 h hw rfl rfl
    generalize (fnd ks id).getD noKey = kk at hlk ⊢
    generalize (fnd ks id).isSome = bb at hlk ⊢
    have hlk2 := hlk _ (ho.alloc (.cells zc 67))
    have hc2 := cell_on hc (.cells zc 67)
    clear hlk hg ho hc
    obtain ⟨i1, i2, i3, i4, i5, i6⟩ := kk
    go_enter Tryd.func54, Tryd.ntmps54
    go_wp2
    exact bodyPost_ret (v := .tuple #[kv ⟨i1, i2, i3, i4, i5, i6⟩, .bool bb]) (by simp [results, Tryd.results54, go_sem]) rfl ⟨rfl, kbelow_two w _ _⟩
end Go.Proofs.YtiobcifpebehnaaDoor
