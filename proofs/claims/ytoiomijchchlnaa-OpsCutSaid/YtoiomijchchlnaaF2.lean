
import Derived.Test.YtoiomijchchlnaaF1
/- F2: ops as plain data: lengths, sums, what may be, what is in place, what fits -/
namespace Go.Proofs.Ytoiomijchchlnaa
open Go.RowKit
set_option linter.unusedVariables false

theorem kbelow_one (w : World) (o : Obj) : Below w.heap.size w (w.alloc o) := (Below.refl _ _).alloc (Nat.le_refl _) _
/-- An op's length. -/
def lenO (p : Opn) : Int := if p.k = 2 then (p.rs.length : Int) else if 0 ≤ p.n then p.n else 0
def sat (n l : Int) : Int := n + if 9223372036854775807 - n < l then 9223372036854775807 - n else l
def cnt (kd : Int) (p : Opn) : Bool := p.k == 1 || p.k == kd
def sumK (kd : Int) (xs : List Opn) : Int := xs.foldl (fun n p => if cnt kd p then sat n (lenO p) else n) 0
def tot (kd : Int) (xs : List Opn) : Int := (xs.map fun p => if cnt kd p then lenO p else 0).sum
theorem lenO_nn (p : Opn) : 0 ≤ lenO p := by
  unfold lenO
  split
  · omega
  · split <;> omega
theorem sat_min {n l : Int} (h : n ≤ 9223372036854775807) : sat n l = min (n + l) 9223372036854775807 := by
  unfold sat
  split <;> omega
theorem sumK_snoc (kd : Int) (xs : List Opn) (x : Opn) : sumK kd (xs ++ [x]) = if cnt kd x then sat (sumK kd xs) (lenO x) else sumK kd xs := by simp [sumK]
theorem tot_app (kd : Int) (xs ys : List Opn) : tot kd (xs ++ ys) = tot kd xs + tot kd ys := by simp [tot]
theorem tot_cons (kd : Int) (x : Opn) (xs : List Opn) : tot kd (x :: xs) = (if cnt kd x then lenO x else 0) + tot kd xs := by simp [tot]
theorem tot_nil (kd : Int) : tot kd [] = 0 := rfl
theorem tot_nn (kd : Int) : ∀ xs : List Opn, 0 ≤ tot kd xs
  | [] => by simp [tot]
  | x :: r => by
    rw [tot_cons]
    have := tot_nn kd r
    have := lenO_nn x
    split <;> omega
theorem fold_tot (kd : Int) : ∀ (xs : List Opn) (n : Int), 0 ≤ n → n ≤ 9223372036854775807 → xs.foldl (fun n p => if cnt kd p then sat n (lenO p) else n) n = min (n + tot kd xs) 9223372036854775807
  | [], n, h0, h1 => by rw [List.foldl_nil, tot_nil]; omega
  | x :: r, n, h0, h1 => by
    rw [List.foldl_cons, tot_cons]
    have hx := lenO_nn x
    have hr := tot_nn kd r
    by_cases hc : cnt kd x = true
    · rw [if_pos hc, if_pos hc, fold_tot kd r _ (by rw [sat_min h1]; omega) (by rw [sat_min h1]; omega), sat_min h1]
      omega
    · rw [if_neg hc, if_neg hc, fold_tot kd r n h0 h1]
      omega
theorem sumK_tot (kd : Int) (xs : List Opn) : sumK kd xs = min (tot kd xs) 9223372036854775807 := by
  unfold sumK
  rw [fold_tot kd xs 0 (by omega) (by omega), Int.zero_add]
theorem sumK_rng (kd : Int) (xs : List Opn) : 0 ≤ sumK kd xs ∧ sumK kd xs ≤ 9223372036854775807 := by
  have := tot_nn kd xs
  rw [sumK_tot]; omega
theorem sum_step {kd : Int} {xs : List Opn} {k : Nat} (h : k < xs.length) : sumK kd (xs.take (k + 1)) = if cnt kd xs[k] then sat (sumK kd (xs.take k)) (lenO xs[k]) else sumK kd (xs.take k) := by rw [tsnoc h, sumK_snoc]

/-- What is told of one op. -/
def mayR (ks : List Key) (p : Opn) : Int := if lenO p < 1 ∨ 0 < p.rs.length ∨ 0 < p.st.length then 3 else may6 ks p.pt
def mayI (ks : List Key) (p : Opn) : Int := if lenO p < 1 ∨ p.n ≠ 0 ∨ 0 < p.pt.length then 3 else if p.rs.all mayB then may5 ks p.st else 3
def mayD (p : Opn) : Int := if lenO p < 1 ∨ 0 < p.rs.length ∨ 0 < p.st.length ∨ 0 < p.pt.length then 3 else 0
def mayO (ks : List Key) (p : Opn) : Int := if p.k = 1 then mayR ks p else if p.k = 2 then mayI ks p else if p.k = 3 then mayD p else 3
def told (ks : List Key) (xs : List Opn) : Int := if xs.any (fun p => mayO ks p == 3) then 3 else if xs.any (fun p => mayO ks p == 4) then 4 else 0
/-- What is told of a delta. -/
def mayX (ks : List Key) (xs : List Opn) : Int := if 536870912 < sumK 3 xs ∨ 536870912 < sumK 2 xs then 3 else told ks xs

/-- Has the set keys of that kind alone? -/
def aloneB (ks : List Key) (b : Bool) (a : Att) : Bool := match fnd ks a.key with
  | some k => k.blk == b
  | none => false
theorem aloneB_eq (ks : List Key) (b : Bool) (a : Att) : aloneB ks b a = ((fnd ks a.key).isSome && ((fnd ks a.key).getD noKey).blk == b) := by
  unfold aloneB
  cases fnd ks a.key <;> rfl
def alone (ks : List Key) (st : List Att) (b : Bool) : Bool := st.all (aloneB ks b)
def placeO (ks : List Key) (p : Opn) : Bool := if p.st.length = 0 then true else if alone ks p.st false then nl p.rs == 0 else if alone ks p.st true then nl p.rs == p.rs.length else false
def placeB (ks : List Key) (p : Opn) : Bool := !(p.k == 2 && !placeO ks p)
def placeX (ks : List Key) (xs : List Opn) : Bool := xs.all (placeB ks)
/-- What is taken by kinds, and whether the last cell stays. -/
def tk (xs : List Opn) : Int := (xs.map fun p => if p.k = 2 then 0 else p.n).sum
theorem tk_app (xs ys : List Opn) : tk (xs ++ ys) = tk xs + tk ys := by simp [tk]
theorem tk_one (x : Opn) : tk [x] = if x.k = 2 then 0 else x.n := by simp [tk]
theorem tk_nil : tk [] = 0 := rfl
def keeps (n : Int) (xs : List Opn) : Prop := ∀ j (h : j < xs.length), ¬ (xs[j].k ≠ 1 ∧ n - tk (xs.take (j + 1)) = 0)
noncomputable instance (n : Int) (xs : List Opn) : Decidable (keeps n xs) := Classical.propDecidable _
/-- What is told of a delta on n cells, at most most. -/
noncomputable def fitsX (ks : List Key) (xs : List Opn) (n most : Int) : Int :=
  if mayX ks xs ≠ 0 then mayX ks xs else if n < 1 ∨ most < n ∨ n < sumK 3 xs then 5 else if ¬ keeps n xs then 6 else if placeX ks xs = false then 7 else if most - (n - sumK 3 xs) < sumK 2 xs then 8 else 0

/-! ### steps -/
theorem any_step {q : Opn → Bool} {xs : List Opn} {k : Nat} (h : k < xs.length) : (xs.take (k + 1)).any q = ((xs.take k).any q || q xs[k]) := by rw [tsnoc h, List.any_append]; simp only [List.any_cons, List.any_nil, Bool.or_false]
theorem any_mem {q : Opn → Bool} {xs : List Opn} {k : Nat} (h : k < xs.length) (hq : q xs[k] = true) : xs.any q = true := List.any_eq_true.2 ⟨_, List.getElem_mem h, hq⟩
theorem told_3 {ks : List Key} {xs : List Opn} {k : Nat} (h : k < xs.length) (hq : mayO ks xs[k] = 3) : told ks xs = 3 := by
  unfold told
  rw [if_pos (any_mem h (by simp [hq]))]
/-- What has been told so far. -/
def Sofar (ks : List Key) (xs : List Opn) (k : Nat) (t : Int) : Prop := (xs.take k).any (fun p => mayO ks p == 3) = false ∧ t = if (xs.take k).any (fun p => mayO ks p == 4) then 4 else 0
theorem sofar_0 (ks : List Key) (xs : List Opn) : Sofar ks xs 0 0 := ⟨by simp, by simp⟩
theorem sofar_4 {ks : List Key} {xs : List Opn} {k : Nat} {t : Int} (hs : Sofar ks xs k t) (h : k < xs.length) (hq : mayO ks xs[k] = 4) : Sofar ks xs (k + 1) 4 := by
  refine ⟨?_, ?_⟩
  · rw [any_step h, hs.1, hq]; rfl
  · rw [any_step h, hq]; simp
theorem sofar_o {ks : List Key} {xs : List Opn} {k : Nat} {t : Int} (hs : Sofar ks xs k t) (h : k < xs.length) (h3 : mayO ks xs[k] ≠ 3) (h4 : mayO ks xs[k] ≠ 4) : Sofar ks xs (k + 1) t := by
  have e3 : (mayO ks xs[k] == 3) = false := by simpa using h3
  have e4 : (mayO ks xs[k] == 4) = false := by simpa using h4
  refine ⟨?_, ?_⟩
  · rw [any_step h, hs.1, e3]; rfl
  · rw [any_step h, e4, Bool.or_false]; exact hs.2
theorem sofar_end {ks : List Key} {xs : List Opn} {t : Int} (hs : Sofar ks xs xs.length t) : told ks xs = t := by
  obtain ⟨h1, h2⟩ := hs
  rw [List.take_length] at h1 h2
  unfold told
  rw [if_neg (by rw [h1]; exact Bool.false_ne_true), h2]
theorem all_step {α : Type} {q : α → Bool} {xs : List α} {k : Nat} (h : k < xs.length) (hp : (xs.take k).all q = true) (hx : q xs[k] = true) : (xs.take (k + 1)).all q = true := by rw [tsnoc h, List.all_append, hp]; simpa using hx
theorem all_bad {α : Type} {q : α → Bool} {xs : List α} {k : Nat} (h : k < xs.length) (hx : q xs[k] = false) : xs.all q = false := by rw [List.all_eq_false]; exact ⟨_, List.getElem_mem h, by rw [hx]; exact Bool.false_ne_true⟩
theorem all_end {α : Type} {q : α → Bool} {xs : List α} (hp : (xs.take xs.length).all q = true) : xs.all q = true := by rwa [List.take_length] at hp
theorem tk_step {xs : List Opn} {k : Nat} (h : k < xs.length) : tk (xs.take (k + 1)) = tk (xs.take k) + if xs[k].k = 2 then 0 else xs[k].n := by rw [tsnoc h, tk_app, tk_one]
end Go.Proofs.Ytoiomijchchlnaa
