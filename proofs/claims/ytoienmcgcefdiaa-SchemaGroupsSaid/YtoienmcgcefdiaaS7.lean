
import Derived.Test.YtoienmcgcefdiaaS5
import Derived.Test.YtoienmcgcefdiaaSort
import Derived.Test.YtoienmcgcefdiaaShelf
import Derived.Shelf.SlSortCmp.WholeK
/- S9: the sort of keys -/
namespace Go.Proofs.Ytoienmcgcefdiaa
open Go.RowKit Go.Sort
set_option linter.unusedVariables false

def cmpK (x y : Key) : Int := Lib.compareInt x.id y.id
theorem ltK (x y : Key) : ltOf cmpK x y = decide (x.id < y.id) := by
  unfold ltOf cmpK Lib.compareInt
  by_cases h1 : x.id < y.id
  · simp [h1]
  · by_cases h2 : y.id < x.id <;> simp [h1, h2]
theorem swoK : SWO (ltOf cmpK) where
  irrefl x := by rw [ltK]; simp
  trans x y z h1 h2 := by rw [ltK] at *; simp at *; omega
  ntrans x y z h1 h2 := by rw [ltK] at *; simp at *; omega

theorem closure_any (x y : Key) (W : World) :
    Calls Try.prog 22 #[kv x, kv y] W fun e w' => e = .returned (.int .i64 (cmpK x y)) ∧ ∃ q os', w' = grow (W.drewN q) os' := by
  have hcon := Lib.hid (fun W' => Try.cmp_Compare_int x.id y.id W')
  unfold cmpK
  generalize Lib.compareInt x.id y.id = r at hcon ⊢
  go_enter Try.func22, Try.ntmps22
  go_wp2_with (go_at_call 23; refine (hcon.out _).mono ?_; rintro e w' ⟨rfl, rfl⟩)
  go_ret
  exact ⟨rfl, 0, _, by rw [alloc_eq_grow, alloc_eq_grow, grow_grow]; rfl⟩

theorem cmpLays (blk off size : Nat) (w : World) : CmpLays Try.prog 22 #[] kc 6 cmpK blk off size w :=
  fun _ _ _ _ x y => closure_any x y _

theorem flatK_flat (l : List Key) : flatK kc 6 l.toArray = (flat l).toArray := by
  apply Array.ext_getElem?
  intro t
  by_cases ht : t < l.length * 6
  · have h1 : t / 6 < l.length := by omega
    have e1 : t / 6 * 6 + t % 6 = t := by omega
    have := flat_get l (t / 6) (t % 6) h1 (by omega)
    rw [e1] at this
    have e2 : (flat l).toArray[t]? = (flat l)[t]? := by simp
    rw [e2, this]
    have hlt : t % 6 < (kc l[t / 6]).length := by simp; omega
    unfold flatK
    simp only [Array.getElem?_map, List.size_toArray]
    rw [Array.getElem?_range, if_pos ht]
    simp only [Option.map_some]
    rw [List.getElem?_eq_getElem hlt]
    congr 1
    rw [show l.toArray[t / 6]! = l[t / 6] by simp [h1]]
    exact getElem!_pos (kc l[t / 6]) (t % 6) hlt
  · rw [Array.getElem?_eq_none (by simp; omega), Array.getElem?_eq_none (by simp [flat_len]; omega)]

theorem heap_put {w : World} {g n : Nat} {os : Array Obj} {cur : Array Value} {e : TypeId} {fr : Nat × Nat} (d : Array Value) (hb : w.heap[g]? = some (.cells cur e fr)) :
    (grow (putRow id (Sort.ahead w n) g 0 d) os).heap[g]? = some (.cells (putCells id 0 d cur) e fr) := by
  have hg : g < w.heap.size := (Array.getElem?_eq_some_iff.1 hb).1
  rw [heap_grow_old _ _ (by simpa using hg)]
  simp [putRow, mapBlock, Sort.ahead, Array.getElem?_modify, hb, onCells]
theorem grown_put {w : World} {g n : Nat} {os : Array Obj} (d : Array Value) : w.grownBy (grow (putRow id (Sort.ahead w n) g 0 d) os) (some g) := by
  refine ⟨rfl, rfl, rfl, by simp, fun k hk hne => ?_⟩
  rw [heap_grow_old _ _ (by simpa using hk)]
  have : g ≠ k := fun e => hne (by rw [e])
  simp [putRow, mapBlock, Sort.ahead, Array.getElem?_modify, this]
theorem take_put (cur : Array Value) (ts : List Value) (h : ts.length ≤ cur.size) : (putCells id 0 ts.toArray cur).toList.take ts.length = ts := by
  apply List.ext_getElem?
  intro j
  by_cases hj : j < ts.length
  · rw [List.getElem?_take_of_lt hj, Array.getElem?_toList]
    simp [putCells, hj, show j < cur.size by omega]
  · rw [List.getElem?_take_eq_none (by omega), List.getElem?_eq_none (by omega)]

theorem sort_any (g cap base : Nat) (l : List Key) (w : World) (hA : Apart l) (hown : w.ownsRow base 32 6 (.slice (some ⟨g, 0, none⟩) l.length cap) l.length (flat l)) (hs : l.length ≤ 1000000) :
    Calls Try.prog 21 #[.slice (some ⟨g, 0, none⟩) l.length cap, .func (.func 22) #[] #[]] w fun e w' =>
      e = .returned (.tuple #[]) ∧ ∃ l', l'.Perm l ∧ l'.Pairwise (fun a b => a.id < b.id) ∧ w'.ownsRow base 32 6 (.slice (some ⟨g, 0, none⟩) l.length cap) l.length (flat l') ∧ w.grownBy w' (some g) := by
  rcases hown.2 with ⟨hn, _⟩ | ⟨g', cap', cur, hv, hbase, hb, h1, h2, h3, h4⟩
  · cases hn
  injection hv with e1 e2 e3
  injection e1 with e1
  injection e1 with e1
  subst e1 e3
  have hgl : g < w.heap.size := (Array.getElem?_eq_some_iff.1 hb).1
  have eg : ∀ args w, (callFunc 22 args).run Try.prog w = .ok (.enter 22 args) w := enters_of Try.func22 (by kernel_rfl) rfl
  have hH : HoldsK kc 6 w g 0 l.toArray := by
    unfold HoldsK
    rw [flatK_flat]
    intro j hj
    have hj' : j < (flat l).length := by simpa using hj
    refine ⟨?_, by simp [World.frozen?, hb]⟩
    have q : (cur.toList.take (l.length * 6))[j]? = (flat l)[j]? := by rw [h4]
    rw [List.getElem?_take_of_lt (by rw [flat_len] at hj'; exact hj')] at q
    simp only [World.cell?, hb, Nat.zero_add]
    simp only [Option.isSome_none, Bool.false_eq_true, if_false]
    rw [← Array.getElem?_toList, q]
    simp [hj']
  have hcon := AnyQ.slices_SortFunc Try.sortKeys 6 Try.isAgg32 Try.sizeOf32 kc (fun _ => rfl) (fun x v hv => by simp at hv; rcases hv with rfl | rfl | rfl | rfl | rfl | rfl <;> rfl) cmpK swoK 22 #[] g 0 cap l.toArray w eg (cmpLays g 0 l.toArray.size w) hH hgl (by simp; omega)
  refine Calls.mono (show Calls Try.prog 21 #[.slice (some ⟨g, 0, none⟩) l.length cap, .func (.func 22) #[] #[]] w _ from hcon) ?_
  rintro e w' ⟨rfl, d', n, os, ⟨p1, p2, p3⟩, hsort, rfl⟩
  refine ⟨rfl, d'.toList, ?_, ?_, ?_, ?_⟩
  · have q1 : d'.extract 0 l.toArray.size = d' := by rw [← p1]; simp
    rw [q1] at p3
    simpa using p3
  · have hpm : d'.toList.Perm l := by
      have q1 : d'.extract 0 l.toArray.size = d' := by rw [← p1]; simp
      rw [q1] at p3
      simpa using p3
    have hA' := hA.perm hpm
    have hsz : d'.size = l.length := by simpa using p1
    refine List.pairwise_iff_getElem.2 fun i j hi hj hij => ?_
    have hlt := hsort i j (Nat.zero_le _) hij (by simpa [hsz] using hj)
    rw [ltK, decide_eq_false_iff_not] at hlt
    have hne := List.pairwise_iff_getElem.1 hA' i j hi hj hij
    have ei : d'[i]! = d'.toList[i] := by rw [getElem!_pos d' i (by simpa using hi)]; simp
    have ej : d'[j]! = d'.toList[j] := by rw [getElem!_pos d' j (by simpa using hj)]; simp
    rw [ei, ej] at hlt
    omega
  · have hsz : d'.toList.length = l.length := by simpa using p1
    have hf : flatK kc 6 d' = (flat d'.toList).toArray := by have := flatK_flat d'.toList; simpa using this
    have hfl : (flat d'.toList).length = l.length * 6 := by rw [flat_len, hsz]
    refine ⟨by rw [hfl], .inr ⟨g, cap, putCells id 0 (flatK kc 6 d') cur, rfl, hbase, heap_put _ hb, h1, h2, by simp [putCells, h3], ?_⟩⟩
    rw [hf, ← hfl]
    exact take_put cur _ (by rw [hfl, h3]; exact Nat.mul_le_mul_right 6 h1)
  · exact grown_put _
end Go.Proofs.Ytoienmcgcefdiaa
