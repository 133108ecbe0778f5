
import Derived.Test.YtiobcifpebehnaaDoorI6
/- I7: has, find, Held, Len, Set, Hold -/
namespace Go.Proofs.YtiobcifpebehnaaDoor
open Go.RowKit
set_option linter.unusedVariables false

section
variable {B : Nat} {S : Nat → Prop} {tb st mb : Nat} {m : Option Nat} {sv fv : Value} {hs : List HV} {D : DataW Unit} {T : TabS} {n : Nat}

set_option maxHeartbeats 1000000 in
theorem has_any (id : Int) (w : World) (h : TbM B S tb st mb m sv fv hs D T n w) (hn : n ≤ 1000000) :
    Calls Tryd.prog 39 #[.pointer (some ⟨st, 0, none⟩), .int .i64 id] w fun e w' => e = .returned (.bool (T.has id)) ∧ w' = w := by
  obtain ⟨-, -, -, c2, -⟩ := h.cells
  obtain ⟨g, cap, rfl, hg, hcap⟩ := h.form
  have hle := h.le.es
  by_cases h0 : id = 0
  · subst h0
    have e : T.has 0 = true := by simp [TabS.has]
    rw [e]
    clear h
    go_enter Tryd.func39, Tryd.ntmps39
    go_wp2
    go_ret
    exact ⟨rfl, rfl⟩
  · have e0 : (id == 0) = false := by simpa using h0
    by_cases h1 : 0 < id
    · have e1 : decide (0 < id) = true := by simpa using h1
      by_cases h2 : id < T.es.length
      · have e2 : decide (id < (T.es.length : Int)) = true := by simpa using h2
        obtain ⟨x, -, -, ct, -, -, -⟩ := h.place (i := id.toNat) (by omega)
        have e : T.has id = decide (0 < T.times id.toNat) := by
          unfold TabS.has
          simp [h0, h1, h2]
        rw [e]
        obtain ⟨j, rfl⟩ : ∃ j : Nat, id = j := ⟨id.toNat, by omega⟩
        rw [Int.toNat_natCast] at ct
        rw [Int.toNat_natCast]
        have h2' : j < T.es.length := by omega
        generalize T.times j = q at *
        clear h e
        go_enter Tryd.func39, Tryd.ntmps39
        go_wp2
        go_ret
        exact ⟨rfl, rfl⟩
      · have e2 : decide (id < (T.es.length : Int)) = false := by simpa using h2
        have e : T.has id = false := by
          unfold TabS.has
          simp [h0, h2]
        rw [e]
        clear h e
        go_enter Tryd.func39, Tryd.ntmps39
        go_wp2
        go_ret
        exact ⟨rfl, rfl⟩
    · have e1 : decide (0 < id) = false := by simpa using h1
      have e : T.has id = false := by
        unfold TabS.has
        simp [h0, h1]
      rw [e]
      clear h e
      go_enter Tryd.func39, Tryd.ntmps39
      go_wp2
      go_ret
      exact ⟨rfl, rfl⟩

/-- What find answers. -/
@[reducible] def fndP (T : TabS) (g : Nat) (id : Int) : Value := if T.has id then .tuple #[.pointer (some ⟨g, id.toNat * 2, none⟩), .int .i64 0] else .tuple #[.pointer none, .int .i64 5]
theorem find7_any (id : Int) (w : World) {g cap : Nat} (h : TbM B S tb st mb m (.slice (some ⟨g, 0, none⟩) T.es.length cap) fv hs D T n w) (hn : n ≤ 1000000) :
    Calls Tryd.prog 36 #[.pointer (some ⟨tb, 0, none⟩), .int .i64 id] w fun e w' => e = .returned (fndP T g id) ∧ w' = w := by
  obtain ⟨c0, -, -, c2, -⟩ := h.cells
  have HZ := Lib.hid (iszero_any w h)
  have HH := Lib.hid (has_any id w h hn)
  have hle := h.le.es
  unfold fndP
  cases hh : T.has id with
  | true =>
    obtain ⟨j, rfl, hl⟩ := has_live hh
    have hj := live_lt hl h.ok.pos
    rw [hh] at HH
    rw [if_pos rfl, Int.toNat_natCast]
    clear h hh hl
    go_enter Tryd.func36, Tryd.ntmps36
    go_wp2_with (first
      | (go_at_call 30; refine HZ.out.mono ?_; rintro e w1 ⟨rfl, rfl⟩)
      | (go_at_call 39; refine HH.out.mono ?_; rintro e w1 ⟨rfl, rfl⟩))
    exact bodyPost_ret (by simp [results, Tryd.results36, go_sem]) rfl ⟨rfl, rfl⟩
  | false =>
    rw [hh] at HH
    clear h hh
    go_enter Tryd.func36, Tryd.ntmps36
    go_wp2_with (first
      | (go_at_call 30; refine HZ.out.mono ?_; rintro e w1 ⟨rfl, rfl⟩)
      | (go_at_call 39; refine HH.out.mono ?_; rintro e w1 ⟨rfl, rfl⟩))
    exact bodyPost_ret (by simp [results, Tryd.results36, go_sem]) rfl ⟨rfl, rfl⟩

@[reducible] def heldI (T : TabS) (id : Int) : Int := if T.has id then (T.times id.toNat : Nat) else 0
theorem held_any (id : Int) (w : World) (h : TbM B S tb st mb m sv fv hs D T n w) (hn : n ≤ 1000000) :
    Calls Tryd.prog 23 #[.pointer (some ⟨tb, 0, none⟩), .int .i64 id] w fun e w' => e = .returned (.int .i64 (heldI T id)) ∧ w' = w := by
  obtain ⟨g, cap, rfl, hg, hcap⟩ := h.form
  have HF := Lib.hid (find7_any id w h hn)
  unfold heldI
  unfold fndP at HF
  cases hh : T.has id with
  | true =>
    obtain ⟨j, rfl, hl⟩ := has_live hh
    obtain ⟨x, -, -, ct, -, -, -⟩ := h.place (live_lt hl h.ok.pos)
    rw [hh, if_pos rfl] at HF
    rw [if_pos rfl]
    rw [Int.toNat_natCast] at HF ⊢
    generalize T.times j = q at *
    clear h hh hl
    go_enter Tryd.func23, Tryd.ntmps23
    go_wp2_with (go_at_call 36; refine HF.out.mono ?_; rintro e w1 ⟨rfl, rfl⟩)
    go_ret
    exact ⟨rfl, rfl⟩
  | false =>
    rw [hh] at HF
    simp only [Bool.false_eq_true, if_false] at HF ⊢
    clear h hh
    go_enter Tryd.func23, Tryd.ntmps23
    go_wp2_with (go_at_call 36; refine HF.out.mono ?_; rintro e w1 ⟨rfl, rfl⟩)
    go_ret
    exact ⟨rfl, rfl⟩
theorem len7_any (w : World) (h : TbM B S tb st mb m sv fv hs D T n w) :
    Calls Tryd.prog 24 #[.pointer (some ⟨tb, 0, none⟩)] w fun e w' => e = .returned (.int .i64 (T.len : Nat)) ∧ w' = w := by
  obtain ⟨c0, -, c1, -, -⟩ := h.cells
  have HZ := Lib.hid (iszero_any w h)
  have ho := h.hmb
  have e : Maps.size D = T.len := by have := h.ids.size; unfold TabS.len; omega
  have E := Lib.hid e
  clear h e
  go_enter Tryd.func24, Tryd.ntmps24
  go_wp2_with (first
    | (go_at_call 30; refine HZ.out.mono ?_; rintro e w1 ⟨rfl, rfl⟩)
    | (at_len; refine wpList_len_own _ rfl _ 80 rfl 9 3 Tryd.underlying80 _ mb _ _ rfl ho ?_))
  go_ret
  exact ⟨by rw [E.out]; rfl, rfl⟩
/-- What Set answers. -/
def SetP (T : TabS) (id : Int) (w : World) (e : Ending) (w' : World) : Prop :=
  Below w.heap.size w w' ∧ ((T.has id = true ∧ ∃ u, e = .returned (.tuple #[u, .int .i64 0]) ∧ Own5 w w' u (T.set id.toNat)) ∨ (T.has id = false ∧ e = .returned (.tuple #[.slice none 0 0, .int .i64 5])))
theorem set7_any (id : Int) (w : World) (h : TbM B S tb st mb m sv fv hs D T n w) (hn : n ≤ 1000000) :
    Calls Tryd.prog 21 #[.pointer (some ⟨tb, 0, none⟩), .int .i64 id] w (SetP T id w) := by
  obtain ⟨g, cap, rfl, hg, hcap⟩ := h.form
  have HF := Lib.hid (find7_any id w h hn)
  unfold SetP
  unfold fndP at HF
  cases hh : T.has id with
  | true =>
    obtain ⟨j, rfl, hl⟩ := has_live hh
    obtain ⟨x, -, cs, -, -, -, ho⟩ := h.place (live_lt hl h.ok.pos)
    have hsm := h.ok.small j hl
    rw [hh, if_pos rfl, Int.toNat_natCast] at HF
    have HO := Lib.hid (own_any _ _ w (Row.of_owns (C := attC) ho).1 (by have := hsm.1; omega) (fun a ha => by have := (hsm.2 a ha).2; omega))
    rw [Int.toNat_natCast]
    generalize T.set j = q at *
    clear h hh hl hsm ho
    go_enter Tryd.func21, Tryd.ntmps21
    go_wp2_with (first
      | (go_at_call 36; refine HF.out.mono ?_; rintro e w1 ⟨rfl, rfl⟩)
      | (go_at_call 33; refine HO.out.mono ?_; rintro e w2 ⟨u, rfl, HR⟩))
    exact bodyPost_ret (by simp [results, Tryd.results21, go_sem]) rfl ⟨HR.2, .inl ⟨trivial, u, rfl, HR.1⟩⟩
  | false =>
    rw [hh] at HF
    simp only [Bool.false_eq_true, if_false] at HF
    clear h hh
    go_enter Tryd.func21, Tryd.ntmps21
    go_wp2_with (go_at_call 36; refine HF.out.mono ?_; rintro e w1 ⟨rfl, rfl⟩)
    exact bodyPost_ret (by simp [results, Tryd.results21, go_sem]) rfl ⟨Below.refl _ _, .inr ⟨trivial, rfl⟩⟩
end
end Go.Proofs.YtiobcifpebehnaaDoor
