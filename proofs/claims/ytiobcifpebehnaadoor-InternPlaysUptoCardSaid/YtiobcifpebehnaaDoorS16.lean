
import Derived.Test.YtiobcifpebehnaaDoorS2
import Derived.Deep.Slices
import Derived.Deep.Fields
import Derived.ChangeArms
import Derived.ChangeSame
import Derived.OpenShut
/- S18: a slice of keys that came in -/
namespace Go.Proofs.YtiobcifpebehnaaDoor
open Go.RowKit Go.ChangeShapes Go.WideShapes Go.Deep
set_option linter.unusedVariables false

section
variable {H : Type} {enc : TypeId × Value → H} {w : World} {base : Nat} {spare : Nat → Bool} {held : Bool}

theorem key_fields : Tryd.prog.underlying 67 = some (.struct (Tryd.prog.fieldsOf 67)) := by kernel_rfl
theorem key_one : oneCellFields Tryd.prog (Tryd.prog.fieldsOf 67) = true := by kernel_rfl
theorem key_cells : Tryd.prog.cellsOf 67 = 6 := by kernel_rfl
theorem key_types : (Tryd.prog.fieldsOf 67).map (·.type) = #[3, 4, 5, 4, 4, 3] := by kernel_rfl

theorem key_size : (Tryd.prog.fieldsOf 67).size = 6 := by kernel_rfl

/-- A key's six cells, from what was read of it. -/
theorem open_key {n : Nat} {cs : List Value} {y : DataW H × List MemPlace} (h : DataW.trod enc Tryd.prog w base spare held n 67 cs = some y) : ∃ k : Key, KeyW k ∧ cs = kc k := by
  obtain ⟨ys, m, -, -, hlen, hys, hf⟩ := DataW.trod_struct key_fields h
  rw [key_cells] at hlen
  rw [key_size] at hys
  have hj : ∀ (j : Nat) (t : TypeId), (#[3, 4, 5, 4, 4, 3] : Array TypeId)[j]? = some t → DataW.trod enc Tryd.prog w base spare held m t ((cs.drop j).take 1) = ys[j]? := by
    intro j t hjt
    rw [← key_types, Array.getElem?_map, Option.map_eq_some_iff] at hjt
    obtain ⟨f, hfj, rfl⟩ := hjt
    obtain ⟨ho, hk⟩ := hone_of key_one j f hfj
    have := hf j f hfj
    rwa [ho, hk] at this
  clear hf h
  match cs, hlen with
  | [c0, c1, c2, c3, c4, c5], _ =>
    match ys, hys with
    | [y0, y1, y2, y3, y4, y5], _ =>
      have h0 : DataW.trod enc Tryd.prog w base spare held m 3 [c0] = some y0 := hj 0 _ rfl
      have h1 : DataW.trod enc Tryd.prog w base spare held m 4 [c1] = some y1 := hj 1 _ rfl
      have h2 : DataW.trod enc Tryd.prog w base spare held m 5 [c2] = some y2 := hj 2 _ rfl
      have h3 : DataW.trod enc Tryd.prog w base spare held m 4 [c3] = some y3 := hj 3 _ rfl
      have h4 : DataW.trod enc Tryd.prog w base spare held m 4 [c4] = some y4 := hj 4 _ rfl
      have h5 : DataW.trod enc Tryd.prog w base spare held m 3 [c5] = some y5 := hj 5 _ rfl
      obtain ⟨a0, e0, -, w0⟩ := DataW.trod_int Tryd.underlying3 h0
      obtain ⟨a1, e1, -⟩ := DataW.trod_bool Tryd.underlying4 h1
      obtain ⟨a2, e2, -, w2⟩ := DataW.trod_int Tryd.underlying5 h2
      obtain ⟨a3, e3, -⟩ := DataW.trod_bool Tryd.underlying4 h3
      obtain ⟨a4, e4, -⟩ := DataW.trod_bool Tryd.underlying4 h4
      obtain ⟨a5, e5, -, w5⟩ := DataW.trod_int Tryd.underlying3 h5
      simp only [List.cons.injEq, and_true] at e0 e1 e2 e3 e4 e5
      subst e0 e1 e2 e3 e4 e5
      exact ⟨⟨a0, a1, a2, a3, a4, a5⟩, ⟨w0, w2, w5⟩, rfl⟩

/-- A slice of keys that came in reads as keys. -/
theorem open_keys {n : Nat} {v : Value} {x : DataW H × List MemPlace} (h : DataW.trod enc Tryd.prog w base spare held n 22 [v] = some x) : ∃ ks, Krow w v ks ∧ ∀ k ∈ ks, KeyW k := by
  rcases open_slice Tryd.underlying22 h with ⟨hcs, -⟩ | ⟨a, len, cap, m, n', D, Pl, hcs, -, hl, hm, hmm, -, hi⟩
  · injection hcs with hv _
    subst hv
    exact ⟨[], Krow.nil w, by simp⟩
  · injection hcs with hv _
    subst hv
    have hlm : len ≤ m := by rw [hmm]; split <;> omega
    have hex : ∀ i, i < len → ∃ k : Key, KeyW k ∧ ∀ j u, (kc k)[j]? = some u → w.cell? (a.add (i * 6 + j)) = some u := by
      intro i hil
      obtain ⟨cs', hc, ht⟩ := hi i (by omega)
      obtain ⟨k, hw, rfl⟩ := open_key ht
      rw [key_cells] at hc
      obtain ⟨-, hcl, hat⟩ := World.cells?_some hc
      refine ⟨k, hw, fun j u hu => ?_⟩
      have hj : j < 6 := by have := (List.getElem?_eq_some_iff.1 hu).1; simpa using this
      have := hat j hj
      rw [hu, add_add] at this
      exact this
    have hex2 : ∀ i : Fin len, ∃ k : Key, KeyW k ∧ ∀ j u, (kc k)[j]? = some u → w.cell? (a.add (i.1 * 6 + j)) = some u := fun i => hex i.1 i.2
    obtain ⟨f, hf⟩ := Classical.axiomOfChoice hex2
    have hlen : (List.ofFn f).length = len := by simp
    refine ⟨List.ofFn f, ?_, fun k hk => ?_⟩
    · by_cases h0 : len = 0
      · subst h0
        exact .inl ⟨some a, cap, rfl, by simp, hm, by simp⟩
      · obtain ⟨b, off, spot⟩ := a
        have hspot : spot = none := by
          have := (hf ⟨0, by omega⟩).2 0 _ rfl
          simpa [Addr.add] using World.cell?_spot this
        subst hspot
        refine .inr ⟨b, off, cap, by rw [hlen], by omega, by omega, hm, fun j u hu => ?_⟩
        have hjl : j < len * 6 := by
          have := (List.getElem?_eq_some_iff.1 hu).1
          rwa [flat_len, hlen] at this
        have e1 : j / 6 * 6 + j % 6 = j := by omega
        have hd : j / 6 < len := by omega
        have g := flat_get (List.ofFn f) (j / 6) (j % 6) (by omega) (by omega)
        rw [e1, hu] at g
        have := (hf ⟨j / 6, hd⟩).2 (j % 6) u (by rw [g]; simp)
        rw [e1, Go.WideShapes.add_plain] at this
        exact this
    · obtain ⟨i, rfl⟩ := List.mem_ofFn.1 hk
      exact (hf i).1
end
end Go.Proofs.YtiobcifpebehnaaDoor
