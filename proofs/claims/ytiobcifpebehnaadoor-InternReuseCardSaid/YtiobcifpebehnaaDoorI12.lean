
import Derived.Test.YtiobcifpebehnaaDoorI11
import Derived.Test.YtiobcifpebehnaaDoorA16
/- I12: take -/
namespace Go.Proofs.YtiobcifpebehnaaDoor
open Go.RowKit
set_option linter.unusedVariables false

theorem vmay_size {k n f : Int} {s : ByteArray} (h : vmay k n f s = true) : s.size ≤ 64 := by
  unfold vmay at h
  rw [decide_eq_true_iff] at h
  rcases h with h | h | h | h
  · omega
  · omega
  · omega
  · obtain ⟨-, -, -, h⟩ := h
    unfold textB at h
    simp at h
    exact h.1
theorem may_small {ks : List Key} {xs : List Att} (h : may5 ks xs = 0) (hW : ∀ a ∈ xs, AttW a) : Small xs := by
  have hw : wf5 xs = true := by
    cases hb : wf5 xs with
    | true => rfl
    | false => rw [may_3 hb] at h; cases h
  obtain ⟨-, h2, h3⟩ := wf_parts hw
  refine ⟨h2, fun a ha => ⟨hW a ha, ?_⟩⟩
  unfold okV at h3
  have := vmay_size (List.all_eq_true.1 h3 a ha)
  omega

set_option maxRecDepth 100000 in
theorem info_held : ∃ i, Tryd.prog.info? 88 = some i ∧ i.zero = some (.agg #[.slice none 0 0, .int .i64 0]) ∧ i.size = 2 ∧ i.bytes = 32 := ⟨_, rfl, rfl, rfl, rfl⟩
theorem hs_snoc (hs : List HV) (i : Nat) (x : HV) (h : (hs ++ [noHV])[i]? = some x) : (hs[i]? = some x ∧ i < hs.length) ∨ (x = noHV ∧ i = hs.length) := by
  by_cases hi : i < hs.length
  · rw [List.getElem?_append_left hi] at h; exact .inl ⟨h, hi⟩
  · have hlt := (List.getElem?_eq_some_iff.1 h).1
    simp at hlt
    obtain rfl : i = hs.length := by omega
    simp at h
    exact .inr ⟨h.symm, rfl⟩

section
variable {B : Nat} {S : Nat → Prop} {tb st mb : Nat} {m : Option Nat} {sv fv : Value} {hs : List HV} {sets : Nat → List Att} {fr : List Nat} {ks : List Key} {k : Nat} {D : DataW Unit}
set_option maxHeartbeats 1000000 in
/-- take, where no id is free. -/
theorem take_new (w : World) (h : Mem B S tb st mb m sv fv hs sets [] ks k D w) (h0 : 0 < hs.length) (hl : hs.length ≤ 1000001) :
    Calls Tryd.prog 32 #[.pointer (some ⟨st, 0, none⟩)] w fun e w' => e = .returned (.int .i64 (hs.length : Nat)) ∧
      (∃ sv', Mem B (fun k => S k ∨ w.heap.size ≤ k) tb st mb m sv' fv (hs ++ [noHV]) (fun j => if j = hs.length then [] else sets j) [] ks k D w') ∧ Off S w w' := by
  obtain ⟨i0, hi, hz0, hz1, hz2⟩ := info_held
  obtain ⟨-, c0, c1, c2, c3⟩ := h.cells
  obtain ⟨fa, fc, rfl⟩ : ∃ a c, fv = .slice a 0 c := by
    rcases h.hfv.2 with ⟨e, _⟩ | ⟨g, cap, cur, e, _⟩
    · exact ⟨_, _, e⟩
    · exact ⟨_, _, e⟩
  have hsB : ∀ k, S k ∨ w.heap.size ≤ k → B ≤ k := fun k hk => by rcases hk with hk | hk; exact h.sB k hk; have := h.hB; omega
  have hbA := (Below.refl w.heap.size w).alloc (Nat.le_refl _) (.cells #[.slice none 0 0, .int .i64 0] 88)
  have M0 := Lib.hid ((h.below hbA).mono (S' := fun k => S k ∨ w.heap.size ≤ k) (fun k hk => .inl hk) hsB)
  have O0 := Lib.hid (Off.of_below (S := fun k => S k ∨ w.heap.size ≤ k) hbA)
  have HN := Lib.hid (heap_alloc_new w (.cells #[.slice none 0 0, .int .i64 0] 88))
  have HL := Lib.hid h0
  clear h hbA hsB h0
  obtain ⟨sa, sl, sc, rfl⟩ : ∃ a l c, sv = .slice a l c := by
    rcases M0.out.hsv.2 with ⟨e, _⟩ | ⟨g, cap, cur, e, _⟩
    · exact ⟨_, _, _, e⟩
    · exact ⟨_, _, _, e⟩
  go_enter Tryd.func32, Tryd.ntmps32
  go_wp2_with (at_builtin; refine wpList_append_lies _ rfl (.tmp 17) (.tmp 19) 81 rfl 0 88 i0 (.agg #[.slice none 0 0, .int .i64 0]) 2 32 Tryd.underlying81 hi hz0 hz1 hz2 rfl (by decide) (.slice sa sl sc) hs.length (fl heldC hs) rfl M0.out.hsv ⟨w.heap.size, 0, none⟩ 1 1 [.slice none 0 0, .int .i64 0] rfl rfl (World.news_of_block HN.out) (by simp [Value.oneCell']) (by decide) (by unfold maxLen; omega) (by omega) (Nat.zero_le _) _ rfl ?_; intro g4 cap4 w4 ho4 hg4 ha4 hl4; refine Hid.out ?_)
  refine Lib.hid ?_
  have hst4 := far hg4 M0.out.hst (fun g' hg' => by
    obtain ⟨cur, hc⟩ := own_tag M0.out.hsv hg'
    exact ⟨_, hc, by simp⟩)
  have c4 : w4.cell? ⟨st, 2, none⟩ = some (.slice sa sl sc) := by rw [cell_of_row w4 st 2 _ _ _ hst4]; rfl
  have f4 : w4.frozen? ⟨st, 2, none⟩ = false := by simp [World.frozen?, hst4]
  have c5 : (w4.setCell ⟨st, 2, none⟩ (.slice (some ⟨g4, 0, none⟩) (hs.length + 1) cap4)).cell? ⟨st, 2, none⟩ = some (.slice (some ⟨g4, 0, none⟩) (hs.length + 1) cap4) := World.cell?_setCell_same _ _ _ c4
  have e4 : fl heldC (hs ++ [noHV]) = fl heldC hs ++ [.slice none 0 0, .int .i64 0] := by rw [fl_app, fl_one]; rfl
  have l4 : (hs ++ [noHV]).length = hs.length + 1 := by simp
  have ho5 : w4.ownsRow 0 88 2 (.slice (some ⟨g4, 0, none⟩) (hs.length + 1) cap4) (hs ++ [noHV]).length (fl heldC (hs ++ [noHV])) := by rw [e4, l4]; exact ho4
  have M5 := Lib.hid (M0.out.resets (hs' := hs ++ [noHV]) (sets' := fun j => if j = hs.length then [] else sets j) hg4 ho5 (fun g' hg' => by
    cases hg'
    rcases ha4 with e | e
    · exact M0.out.sSv _ e
    · right; have := O0.out.size; show w.heap.size ≤ g4; omega) (fun i x hx => by
    rcases hs_snoc hs i x hx with ⟨q1, q2⟩ | ⟨q1, q2⟩
    · exact .inl ⟨q1, if_neg (by omega)⟩
    · exact .inr ⟨q1, if_pos q2⟩))
  have O5 := Lib.hid ((O0.out.seq (Off.of_grown hg4 (fun g' hg' => M0.out.sSv g' hg'))).seq (Off.of_grown (grown_set (w := w4) (g := st) (o := 2) (.slice (some ⟨g4, 0, none⟩) (hs.length + 1) cap4)) (fun g' hg' => by cases hg'; exact M0.out.sSt)))
  clear hg4 ha4 ho4 ho5 hst4 e4 l4 c0 c1 c2 c3 HL
  go_wp2
  go_ret
  exact ⟨rfl, ⟨_, M5.out⟩, O5.out.cut⟩

set_option maxHeartbeats 1000000 in
/-- take, where one is. -/
theorem take_old (w : World) {i : Nat} {fr0 : List Nat} (h : Mem B S tb st mb m sv fv hs sets (fr0 ++ [i]) ks k D w) (hl : fr0.length ≤ 1000000) :
    Calls Tryd.prog 32 #[.pointer (some ⟨st, 0, none⟩)] w fun e w' => e = .returned (.int .i64 (i : Nat)) ∧
      (∃ fv', Mem B (fun k => S k ∨ w.heap.size ≤ k) tb st mb m sv fv' hs sets fr0 ks k D w') ∧ Off S w w' := by
  obtain ⟨-, c0, c1, c2, c3⟩ := h.cells
  have l0 : (fr0 ++ [i]).length = fr0.length + 1 := by simp
  have hfv := h.hfv
  obtain ⟨g, cap, rfl, -, hg⟩ := h.hfv.form (by omega)
  have hcap : fr0.length + 1 ≤ cap := by
    rcases hfv.2 with ⟨hn, _⟩ | ⟨g', cap', cur, hv, _, _, hc, _⟩
    · cases hn
    · injection hv with _ _ e; subst e; omega
  have hsB : ∀ k, S k ∨ w.heap.size ≤ k → B ≤ k := fun k hk => by rcases hk with hk | hk; exact h.sB k hk; have := h.hB; omega
  have ci : w.cell? ⟨g, fr0.length, none⟩ = some (.int .i64 (i : Nat)) := by
    have := hfv.cells (g := g) rfl fr0.length (.int .i64 (i : Nat)) (by simp)
    rw [Go.WideShapes.add_plain] at this
    simpa using this
  have fi := h.nofreeze 3
  have ho5 : w.ownsRow 0 3 1 (.slice (some ⟨g, 0, none⟩) fr0.length cap) fr0.length (fr0.map fun i => Value.int .i64 (i : Nat)) := by
    refine ⟨by simp, ?_⟩
    rcases hfv.2 with ⟨hn, _⟩ | ⟨g', cap', cur, hv, hb, hh, hc, hm, hs, ht⟩
    · cases hn
    · injection hv with e1 e2 e3
      subst e3
      injection e1 with e1
      injection e1 with e1
      subst e1
      refine .inr ⟨g, cap, cur, rfl, hb, hh, by omega, hm, hs, ?_⟩
      rw [Nat.mul_one]
      rw [Nat.mul_one, l0] at ht
      have : (cur.toList.take (fr0.length + 1)).take fr0.length = ((fr0 ++ [i]).map fun i => Value.int .i64 (i : Nat)).take fr0.length := by rw [ht]
      rw [List.take_take, Nat.min_eq_left (by omega)] at this
      rw [this]
      simp
  have M5 := Lib.hid ((h.mono (S' := fun k => S k ∨ w.heap.size ≤ k) (fun k hk => .inl hk) hsB).refree (w1 := w) ⟨rfl, rfl, rfl, Nat.le_refl _, fun _ _ _ => rfl⟩ ho5 (fun g' hg' => .inl (h.sFv g' hg')))
  have O5 := Lib.hid (Off.of_grown (S := S) (grown_set (w := w) (g := st) (o := 3) (.slice (some ⟨g, 0, none⟩) fr0.length cap)) (fun g' hg' => by cases hg'; exact h.sSt))
  rw [l0] at c3
  clear h hfv hsB ho5 l0
  go_enter Tryd.func32, Tryd.ntmps32
  go_wp2
  go_ret
  exact ⟨rfl, ⟨_, M5.out⟩, O5.out⟩
end
end Go.Proofs.YtiobcifpebehnaaDoor
