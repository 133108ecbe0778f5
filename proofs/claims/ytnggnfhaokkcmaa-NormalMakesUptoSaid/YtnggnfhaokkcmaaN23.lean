
import Derived.Test.YtnggnfhaokkcmaaN22
/- N23: what a law is told; its contracts -/
namespace Go.Proofs.Ytnggnfhaokkcmaa
open Go.RowKit
set_option linter.unusedVariables false
set_option maxRecDepth 100000

structure LIn (zs : List Oz) : Prop where
  i : In zs
  a : ∀ z ∈ zs, ∀ a ∈ z.st, a.s.size ≤ 1048576
  c : ∀ z ∈ zs, ∀ a ∈ z.pt, a.s.size ≤ 1048576
  len : zs.length ≤ 1048576
  rs : sumR (zs.map Oz.o) ≤ 1048576
theorem le_totA {a : Att} : ∀ {l : List Att}, a ∈ l → a.s.size ≤ totA l
  | [], h => by cases h
  | x :: r, h => by
    have e : totA (x :: r) = 1 + x.s.size + totA r := by simp [totA, sizeA]; omega
    rcases List.mem_cons.1 h with rfl | h
    · rw [e]; omega
    · have := le_totA h; omega
theorem le_totC {a : Chg} : ∀ {l : List Chg}, a ∈ l → a.s.size ≤ totC l
  | [], h => by cases h
  | x :: r, h => by
    have e : totC (x :: r) = 1 + x.s.size + totC r := by simp [totC, sizeC]; omega
    rcases List.mem_cons.1 h with rfl | h
    · rw [e]; omega
    · have := le_totC h; omega
theorem le_totO {z : Oz} : ∀ {l : List Oz}, z ∈ l → szO z ≤ totO l
  | [], h => by cases h
  | x :: r, h => by
    have e : totO (x :: r) = szO x + totO r := by simp [totO]
    rcases List.mem_cons.1 h with rfl | h
    · omega
    · have := le_totO h; omega
theorem law_in {zs : List Oz} (hW : ∀ z ∈ zs, OpW z) (h : totO zs ≤ 1048576) : LIn zs := by
  obtain ⟨h1, h2, h3⟩ := sm_tot h
  refine ⟨⟨h2, fun z hz => ?_, by omega, by omega⟩, fun z hz a ha => ?_, fun z hz a ha => ?_, h1, h3⟩
  · have := (hW z hz).n
    have e : (Lit.int .i64 z.n).wf = true := this
    simp [Lit.wf] at e
    omega
  · have e3 : szO z = 1 + z.rs.length + totA z.st + totC z.pt := rfl
    have := le_totO hz
    have := le_totA ha
    omega
  · have e3 : szO z = 1 + z.rs.length + totA z.st + totC z.pt := rfl
    have := le_totO hz
    have := le_totC ha
    omega
theorem tame_h {v u : Value} {ks : List Key} {zs : List Oz} {w : World} (hk : Krow w v ks) (hx : Orow w u zs) (hW : ∀ z ∈ zs, OpW z) (hz : totO zs ≤ 1048576) :
    Calls Try.prog 8 #[v, u] w fun e w' => TmP zs e ∧ Below w.heap.size w w' :=
  tame_any v u ks zs w hk hx hW (law_in hW hz).i.sm (law_in hW hz).a (law_in hW hz).c
/-- What tame says yes to. -/
structure Tame (zs : List Oz) : Prop where
  tm : ∀ o ∈ zs.map Oz.o, Tm o
  n : sumN (zs.map Oz.o) ≤ 1125899906842624
theorem sumN_le {c : Int} : ∀ {l : List Oz}, (∀ x ∈ l, x.n ≤ c) → 0 ≤ c → sumN (l.map Oz.o) ≤ l.length * c
  | [], _, _ => by simp [sumN]
  | x :: r, h, hc => by
    have h1 := sumN_le (fun y hy => h y (List.mem_cons_of_mem _ hy)) hc
    have h2 := h x (List.mem_cons_self ..)
    have e : sumN ((x :: r).map Oz.o) = x.n + sumN (r.map Oz.o) := by rw [List.map_cons, sumN_cons]; rfl
    have e2 : (((x :: r).length : Nat) : Int) * c = c + r.length * c := by rw [List.length_cons]; push_cast; rw [Int.add_mul]; omega
    rw [e, e2]
    omega
theorem tame_yes {zs : List Oz} (h : ∀ x ∈ zs, FP x) (hl : zs.length ≤ 1048576) : Tame zs := by
  refine ⟨fun o ho => ?_, ?_⟩
  · obtain ⟨x, hx, rfl⟩ := List.mem_map.1 ho
    exact (h x hx).tm
  · have := sumN_le (fun x hx => (h x hx).n) (by omega)
    omega
end Go.Proofs.Ytnggnfhaokkcmaa
