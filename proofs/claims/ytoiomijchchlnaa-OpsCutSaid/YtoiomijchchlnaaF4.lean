
import Derived.Test.YtoiomijchchlnaaF3
/- F4: an op in its box; in place; what may be of each kind -/
namespace Go.Proofs.Ytoiomijchchlnaa
open Go.RowKit
set_option linter.unusedVariables false

/-- An op in a block of its own. -/
@[reducible] def OBox (b : Nat) (k n : Int) (ra : Option Addr) (rl rc : Nat) (sa : Option Addr) (sl sc : Nat) (pa : Option Addr) (pl pc : Nat) (w : World) : Prop :=
  w.cell? ⟨b, 0, none⟩ = some (.int .u8 k) ∧ w.cell? ⟨b, 1, none⟩ = some (.int .i64 n) ∧ w.cell? ⟨b, 2, none⟩ = some (.slice ra rl rc) ∧ w.cell? ⟨b, 3, none⟩ = some (.slice sa sl sc) ∧ w.cell? ⟨b, 4, none⟩ = some (.slice pa pl pc)
section
variable {k n : Int} {ra : Option Addr} {rl rc : Nat} {sa : Option Addr} {sl sc : Nat} {pa : Option Addr} {pl pc : Nat}
theorem OBox.below {B b : Nat} {w w' : World} (h : OBox b k n ra rl rc sa sl sc pa pl pc w) (hb : Below B w w') (hB : b < B) : OBox b k n ra rl rc sa sl sc pa pl pc w' := by
  obtain ⟨h0, h1, h2, h3, h4⟩ := h
  exact ⟨(hb.cell (p := ⟨b, _, none⟩) hB).trans h0, (hb.cell (p := ⟨b, _, none⟩) hB).trans h1, (hb.cell (p := ⟨b, _, none⟩) hB).trans h2, (hb.cell (p := ⟨b, _, none⟩) hB).trans h3, (hb.cell (p := ⟨b, _, none⟩) hB).trans h4⟩
theorem OBox.lt {b : Nat} {w : World} (h : OBox b k n ra rl rc sa sl sc pa pl pc w) : b < w.heap.size := World.block_lt_of_cell? w _ h.1
theorem OBox.stay {b : Nat} {w w' : World} (h : OBox b k n ra rl rc sa sl sc pa pl pc w) (hb : Below w.heap.size w w') : OBox b k n ra rl rc sa sl sc pa pl pc w' := h.below hb h.lt
end
theorem OBox.box (k n : Int) (ra : Option Addr) (rl rc : Nat) (sa : Option Addr) (sl sc : Nat) (pa : Option Addr) (pl pc : Nat) (w : World) (t : TypeId) : OBox w.heap.size k n ra rl rc sa sl sc pa pl pc (w.alloc (.cells (opcs k n ra rl rc sa sl sc pa pl pc) t)) := by
  refine ⟨?_, ?_, ?_, ?_, ?_⟩ <;> (rw [cell_of_row _ w.heap.size _ _ t (0, 0) (heap_alloc_new w _)]; rfl)

/-- The class of worlds of the one drawn region of inPlace. -/
def BxC (W : World) (b : Nat) (x : Value) (w' : World) : Prop := w'.cell? ⟨b, 2, none⟩ = some x ∧ Below W.heap.size W w'

set_option maxRecDepth 100000 in
set_option maxHeartbeats 2000000 in
theorem inPlace_any (v : Value) (ks : List Key) (k n : Int) (rs : List Int) (st : List Att) (ra : Option Addr) (rl rc : Nat) (sa : Option Addr) (sl sc : Nat) (pa : Option Addr) (pl pc : Nat) (w : World)
    (hs : Sch w v ks) (hr : Ints .i32 w (.slice ra rl rc) rs) (ha : Arow w (.slice sa sl sc) st) (hW : ∀ a ∈ st, AttW a) (hrl : rs.length = rl) (hsl : st.length = sl) :
    Calls Try.prog 21 #[v, .agg (opcs k n ra rl rc sa sl sc pa pl pc)] w fun e w' => e = .returned (.bool (if sl = 0 then true else if alone ks st false then nl rs == 0 else if alone ks st true then nl rs == rl else false)) ∧ Below w.heap.size w w' := by
  have HB := Lib.hid (kbelow_one w (.cells (opcs k n ra rl rc sa sl sc pa pl pc) 41))
  have HX := Lib.hid (OBox.box k n ra rl rc sa sl sc pa pl pc w 41)
  have HA := Lib.hid (fun b W (hb : Below w.heap.size w W) => alone_any v (.slice sa sl sc) b ks st W (hs.below hb (Nat.le_refl _)) (ha.below hb (Nat.le_refl _)) hW)
  have HN := Lib.hid (fun W (hb : Below w.heap.size w W) => newlines_any (.slice ra rl rc) rs W (hr.below hb))
  have hrl63 := hr.len
  rw [hrl] at hrl63
  have hn0 := nl_le rs
  clear hs hr ha hW hrl hsl
  generalize nl rs = N at *
  by_cases h0 : sl = 0
  · subst h0
    rw [if_pos rfl]
    go_enter Try.func21, Try.ntmps21
    go_wp2
    go_ret
    exact ⟨rfl, HB.out⟩
  rw [if_neg h0]
  have e0 : ((sl : Int) == 0) = false := by simpa using h0
  have HF := Lib.hid (HA.out false)
  have HT := Lib.hid (HA.out true)
  clear HA
  generalize alone ks st false = af at *
  generalize alone ks st true = at_ at *
  cases af
  · cases at_
    · clear h0
      go_enter Try.func21, Try.ntmps21
      go_wp2_with (first
        | (go_at_call 28; (with_reducible refine (HF.out _ HB.out).mono ?_); rintro e w1 ⟨rfl, hb⟩; have HB1 := Lib.hid (below_add HB.out hb HB.out.size); obtain ⟨c0, c1, c2, c3, c4⟩ := HX.out.stay hb; clear hb)
        | (go_at_call 28; (with_reducible refine (HT.out _ HB1.out).mono ?_); rintro e w2 ⟨rfl, hb⟩; have HB2 := Lib.hid (below_add HB1.out hb HB1.out.size); clear hb))
      go_ret
      exact ⟨rfl, HB2.out⟩
    · clear h0
      go_enter Try.func21, Try.ntmps21
      go_wp2_with (first
        | (go_at_call 28; (with_reducible refine (HF.out _ HB.out).mono ?_); rintro e w1 ⟨rfl, hb⟩; have HB1 := Lib.hid (below_add HB.out hb HB.out.size); have HX1 := Lib.hid (HX.out.stay hb); obtain ⟨c0, c1, c2, c3, c4⟩ := HX1.out; clear hb)
        | (go_at_call 28; (with_reducible refine (HT.out _ HB1.out).mono ?_); rintro e w2 ⟨rfl, hb⟩; have HB2 := Lib.hid (below_add HB1.out hb HB1.out.size); have HX2 := Lib.hid (HX1.out.stay hb); clear hb c0 c1 c2 c3 c4))
      have HC := Lib.hid (show BxC w2 w.heap.size (.slice ra rl rc) w2.drew from ⟨(HX2.out.stay (Below.refl _ _).drew).2.2.1, (Below.refl _ _).drew⟩)
      have KN := Lib.hid (fun W (h : BxC w2 w.heap.size (.slice ra rl rc) W) => (HN.out W (below_add HB2.out h.2 HB2.out.size)).mono fun e w' (q : _ ∧ W = w') => (⟨q.1, q.2 ▸ h⟩ : _ ∧ BxC w2 w.heap.size (.slice ra rl rc) w'))
      clear HF HT HN HX HX1
      refine region_classw (C := BxC w2 w.heap.size (.slice ra rl rc)) (by kernel_rfl) (by kernel_rfl) HC.out ?_
      repeat (first
        | (refine w_val (v := ?_) (by rfl) (fun w9 hS => ?_) ?_
           rotate_left
           · obtain ⟨f2, -⟩ := hS
             go_simp
             try with_reducible rfl
           simp only [Act.put, List.setIfInBounds_toArray, List.set_cons_zero, List.set_cons_succ])
        | (refine w_call (by rfl) (fun w9 hS => ?_) KN.out ?_
           · obtain ⟨f2, -⟩ := hS
             go_simp
           simp only [Act.put, List.setIfInBounds_toArray, List.set_cons_zero, List.set_cons_succ]))
      refine w_end ?_
      intro w5 T5
      have HT := Lib.hid (below_add HB2.out T5.2 HB2.out.size)
      clear T5
      go_wp2
      go_ret
      exact ⟨rfl, HT.out⟩
  · clear h0
    go_enter Try.func21, Try.ntmps21
    go_wp2_with (first
      | (go_at_call 28; (with_reducible refine (HF.out _ HB.out).mono ?_); rintro e w1 ⟨rfl, hb⟩; have HB1 := Lib.hid (below_add HB.out hb HB.out.size); have HX1 := Lib.hid (HX.out.stay hb); obtain ⟨c0, c1, c2, c3, c4⟩ := HX1.out; clear hb)
      | (go_at_call 29; (with_reducible refine (HN.out _ HB1.out).mono ?_); rintro e w2 ⟨rfl, rfl⟩))
    go_ret
    exact ⟨rfl, HB1.out⟩
end Go.Proofs.Ytoiomijchchlnaa
