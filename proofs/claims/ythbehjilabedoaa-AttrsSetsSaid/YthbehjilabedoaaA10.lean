
import Derived.Test.YthbehjilabedoaaA9
/- A10: With, Without, Copy -/
namespace Go.Proofs.Ythbehjilabedoaa
open Go.RowKit
set_option linter.unusedVariables false

def with5 (xs : List Att) (a : Att) : List Att := lo5 xs a.key ++ a :: hi5 xs a.key
def without5 (xs : List Att) (key : Int) : List Att := lo5 xs key ++ hi5 xs key
/-- A set of the call's own that reads as ys. -/
def Own5 (w0 w : World) (u : Value) (ys : List Att) : Prop := w.ownsRow w0.heap.size 28 5 u ys.length (fl attC ys)
theorem Own5.row {w0 w : World} {u : Value} {ys : List Att} (h : Own5 w0 w u ys) : Arow w u ys := (Row.of_owns (C := attC) h).1

theorem cat3 (w w1 : World) (a : Att) (xs ys zs : List Att) (a1 a2 : Option Addr) (c1 c2 : Nat) (t1 t2 : TypeId) (h1 : Arow w1 (.slice a1 ys.length c1) ys) (h2 : Arow w1 (.slice a2 zs.length c2) zs) (hp : Parts xs a.key ys zs) (hl : xs.length ≤ 1000) (hb : Below w.heap.size w w1) :
    Calls Try.prog 35 #[.slice (some ⟨w1.heap.size + 1, 0, none⟩) 3 3] ((w1.alloc (.cells (aca a) t1)).alloc (.cells #[.slice a1 ys.length c1, .slice (some ⟨w1.heap.size, 0, none⟩) 1 1, .slice a2 zs.length c2] t2)) fun e w' =>
      ∃ u ls, e = .returned u ∧ (Rise xs → ls = with5 xs a) ∧ ls.length ≤ 2 * xs.length + 1 ∧ Own5 w w' u ls ∧ Below w.heap.size w w' := by
  have hB : Below w1.heap.size w1 ((w1.alloc (.cells (aca a) t1)).alloc (.cells #[.slice a1 ys.length c1, .slice (some ⟨w1.heap.size, 0, none⟩) 1 1, .slice a2 zs.length c2] t2)) := ((Below.refl _ _).alloc (Nat.le_refl _) _).alloc (by simp) _
  have hA : Arow (w1.alloc (.cells (aca a) t1)) (.slice (some ⟨w1.heap.size, 0, none⟩) 1 1) [a] := Row.built (C := attC) w1 t1 [a] (by simp [maxLen])
  have hA2 : Arow ((w1.alloc (.cells (aca a) t1)).alloc (.cells #[.slice a1 ys.length c1, .slice (some ⟨w1.heap.size, 0, none⟩) 1 1, .slice a2 zs.length c2] t2)) (.slice (some ⟨w1.heap.size, 0, none⟩) 1 1) [a] := hA.below ((Below.refl _ _).alloc (Nat.le_refl _) _) (Nat.le_refl _)
  have hR : Row slC ((w1.alloc (.cells (aca a) t1)).alloc (.cells #[.slice a1 ys.length c1, .slice (some ⟨w1.heap.size, 0, none⟩) 1 1, .slice a2 zs.length c2] t2)) (.slice (some ⟨(w1.alloc (.cells (aca a) t1)).heap.size, 0, none⟩) 3 3) [(a1, ys.length, c1), (some ⟨w1.heap.size, 0, none⟩, 1, 1), (a2, zs.length, c2)] :=
    Row.built (C := slC) (w1.alloc (.cells (aca a) t1)) t2 [(a1, ys.length, c1), (some ⟨w1.heap.size, 0, none⟩, 1, 1), (a2, zs.length, c2)] (by simp [maxLen])
  simp only [World.size_alloc] at hR
  have hall : Rows5 ((w1.alloc (.cells (aca a) t1)).alloc (.cells #[.slice a1 ys.length c1, .slice (some ⟨w1.heap.size, 0, none⟩) 1 1, .slice a2 zs.length c2] t2)) [(a1, ys.length, c1), (some ⟨w1.heap.size, 0, none⟩, 1, 1), (a2, zs.length, c2)] [ys, [a], zs] := by
    refine ⟨rfl, fun j h1' h2' => ?_⟩
    match j, h1' with
    | 0, _ => exact h1.below hB (Nat.le_refl _)
    | 1, _ => exact hA2
    | 2, _ => exact h2.below hB (Nat.le_refl _)
  have e : ([ys, [a], zs] : List (List Att)).flatten = ys ++ a :: zs := by simp
  have hlen : (ys ++ a :: zs).length ≤ 2 * xs.length + 1 := by have h1 := hp.1; have h2 := hp.2.1; simp; omega
  have hb2 := below_add hb hB hb.size
  refine (concat_any _ _ _ _ hR (by simp) hall (by rw [e]; omega)).mono fun e' w' => ?_
  rw [e]
  rintro ⟨u, he, ho, hb3⟩
  exact ⟨u, _, he, fun hr => by obtain ⟨q1, q2⟩ := hp.2.2 hr; rw [q1, q2]; rfl, hlen, owns_mono ho hb2.size, below_add hb2 hb3 hb2.size⟩

theorem cat2 (w w1 : World) (key : Int) (xs ys zs : List Att) (a1 a2 : Option Addr) (c1 c2 : Nat) (t2 : TypeId) (h1 : Arow w1 (.slice a1 ys.length c1) ys) (h2 : Arow w1 (.slice a2 zs.length c2) zs) (hp : Parts xs key ys zs) (hl : xs.length ≤ 1000) (hb : Below w.heap.size w w1) :
    Calls Try.prog 35 #[.slice (some ⟨w1.heap.size, 0, none⟩) 2 2] (w1.alloc (.cells #[.slice a1 ys.length c1, .slice a2 zs.length c2] t2)) fun e w' =>
      ∃ u ls, e = .returned u ∧ (Rise xs → ls = without5 xs key) ∧ ls.length ≤ 2 * xs.length ∧ Own5 w w' u ls ∧ Below w.heap.size w w' := by
  have hB : Below w1.heap.size w1 (w1.alloc (.cells #[.slice a1 ys.length c1, .slice a2 zs.length c2] t2)) := (Below.refl _ _).alloc (Nat.le_refl _) _
  have hR : Row slC (w1.alloc (.cells #[.slice a1 ys.length c1, .slice a2 zs.length c2] t2)) (.slice (some ⟨w1.heap.size, 0, none⟩) 2 2) [(a1, ys.length, c1), (a2, zs.length, c2)] :=
    Row.built (C := slC) w1 t2 [(a1, ys.length, c1), (a2, zs.length, c2)] (by simp [maxLen])
  have hall : Rows5 (w1.alloc (.cells #[.slice a1 ys.length c1, .slice a2 zs.length c2] t2)) [(a1, ys.length, c1), (a2, zs.length, c2)] [ys, zs] := by
    refine ⟨rfl, fun j h1' h2' => ?_⟩
    match j, h1' with
    | 0, _ => exact h1.below hB (Nat.le_refl _)
    | 1, _ => exact h2.below hB (Nat.le_refl _)
  have e : ([ys, zs] : List (List Att)).flatten = ys ++ zs := by simp
  have hlen : (ys ++ zs).length ≤ 2 * xs.length := by have h1 := hp.1; have h2 := hp.2.1; simp; omega
  have hb2 := below_add hb hB hb.size
  refine (concat_any _ _ _ _ hR (by simp) hall (by rw [e]; omega)).mono fun e' w' => ?_
  rw [e]
  rintro ⟨u, he, ho, hb3⟩
  exact ⟨u, _, he, fun hr => by obtain ⟨q1, q2⟩ := hp.2.2 hr; rw [q1, q2]; rfl, hlen, owns_mono ho hb2.size, below_add hb2 hb3 hb2.size⟩

theorem around_any2 (v : Value) (xs : List Att) (key : Int) (w : World) (hv : Arow w v xs) (hl : xs.length ≤ 1000000) :
    Calls Try.prog 34 #[v, .int .i64 key] w fun e w' => ∃ ys zs a1 c1 a2 c2, e = .returned (.tuple #[.slice a1 ys.length c1, .slice a2 zs.length c2]) ∧ Hid (Parts xs key ys zs) ∧ Hid (Arow w' (.slice a1 ys.length c1) ys) ∧ Hid (Arow w' (.slice a2 zs.length c2) zs) ∧ Below w.heap.size w w' :=
  (around_any v xs key w hv hl).mono fun e w' ⟨ys, zs, v1, v2, hp, h1, h2, he, hb⟩ => by
    obtain ⟨a1, c1, rfl⟩ := h1.shape
    obtain ⟨a2, c2, rfl⟩ := h2.shape
    exact ⟨ys, zs, a1, c1, a2, c2, he, Lib.hid hp, Lib.hid h1, Lib.hid h2, hb⟩

set_option maxRecDepth 100000 in
/-- With: the set in which the key has that value, in memory of the call's own. -/
theorem with_any (v : Value) (xs : List Att) (a : Att) (w : World) (hv : Arow w v xs) (hl : xs.length ≤ 1000) :
    Calls Try.prog 19 #[v, av a] w fun e w' => ∃ u ls, e = .returned u ∧ (Rise xs → ls = with5 xs a) ∧ ls.length ≤ 2 * xs.length + 1 ∧ Own5 w w' u ls ∧ Below w.heap.size w w' := by
  have hB := (Below.refl w.heap.size w).alloc (Nat.le_refl _) (.cells (aca a) 28)
  have hbx := ABox.box a w 28
  have HA := Lib.hid (fun key => around_any2 v xs key _ (hv.below hB (Nat.le_refl _)) (by omega))
  have HC := Lib.hid (fun w1 ys zs a1 a2 c1 c2 t1 t2 h1 h2 hp hb => cat3 w w1 a xs ys zs a1 a2 c1 c2 t1 t2 h1 h2 hp hl hb)
  clear hv
  obtain ⟨x1, x2, x3, x4, x5⟩ := a
  go_enter Try.func19, Try.ntmps19
  go_wp2_with (first
    | (go_at_call 34; refine (HA.out _).mono ?_; rintro e w1 ⟨ys, zs, a1, c1, a2, c2, rfl, HP, H1, H2, hb⟩; obtain ⟨d0, d1, d2, d3, d4⟩ := hbx.below hb (by simp); have HB := Lib.hid (below_add hB hb hB.size))
    | (go_at_call 35; refine (HC.out w1 ys zs a1 a2 c1 c2 _ _ H1.out H2.out HP.out HB.out).mono ?_; rintro e w2 ⟨u, ls, rfl, HR⟩))
  go_ret
  exact ⟨u, ls, rfl, HR⟩

set_option maxRecDepth 100000 in
/-- Without: the set without the key, in memory of the call's own. -/
theorem without_any (v : Value) (xs : List Att) (key : Int) (w : World) (hv : Arow w v xs) (hl : xs.length ≤ 1000) :
    Calls Try.prog 20 #[v, .int .i64 key] w fun e w' => ∃ u ls, e = .returned u ∧ (Rise xs → ls = without5 xs key) ∧ ls.length ≤ 2 * xs.length ∧ Own5 w w' u ls ∧ Below w.heap.size w w' := by
  have HA := Lib.hid (around_any2 v xs key w hv (by omega))
  have HC := Lib.hid (fun w1 ys zs a1 a2 c1 c2 t2 h1 h2 hp hb => cat2 w w1 key xs ys zs a1 a2 c1 c2 t2 h1 h2 hp hl hb)
  clear hv
  go_enter Try.func20, Try.ntmps20
  go_wp2_with (first
    | (go_at_call 34; refine HA.out.mono ?_; rintro e w1 ⟨ys, zs, a1, c1, a2, c2, rfl, HP, H1, H2, hb⟩; have HB := Lib.hid hb)
    | (go_at_call 35; refine (HC.out w1 ys zs a1 a2 c1 c2 _ H1.out H2.out HP.out HB.out).mono ?_; rintro e w2 ⟨u, ls, rfl, HR⟩))
  go_ret
  exact ⟨u, ls, rfl, HR⟩
end Go.Proofs.Ythbehjilabedoaa
