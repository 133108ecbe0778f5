
import Derived.Test.YtnggnfhaokkcmaaN30
/- N31: the reference's Of, as plain data -/
namespace Go.Proofs.Ytnggnfhaokkcmaa
open Go.RowKit
set_option linter.unusedVariables false
set_option maxRecDepth 100000

/-- The reference's loop: out, and where the gap began. -/
structure RW (w : World) (xs : List Oz) (k f : Nat) (v : Value) (ys : List Oz) (W : World) : Prop where
  o : GO w w.heap.size v ys W
  r : (ys.map Oz.o).reverse = (refS ((xs.take k).map Oz.o)).1
  g : ((xs.take k).drop f).map Oz.o = (refS ((xs.take k).map Oz.o)).2
  f : f ≤ k
/-- Behind a gap. -/
structure RM (w : World) (xs : List Oz) (k : Nat) (v : Value) (ys : List Oz) (W : World) : Prop where
  o : GO w w.heap.size v ys W
  r : (ys.map Oz.o).reverse = refR ((xs.take k).map Oz.o)
section
variable {w W W2 W3 : World} {xs ys gy zs : List Oz} {k f : Nat} {v v3 : Value} {z l l2 : Oz}
theorem RW.below (h : RW w xs k f v ys W) (hb : Below W.heap.size W W2) : RW w xs k f v ys W2 := ⟨h.o.below hb, h.r, h.g, h.f⟩
theorem RM.below (h : RM w xs k v ys W) (hb : Below W.heap.size W W2) : RM w xs k v ys W2 := ⟨h.o.below hb, h.r⟩
theorem refS_take (hk : k < xs.length) : refS ((xs.take (k + 1)).map Oz.o) = refStep (refS ((xs.take k).map Oz.o)) xs[k].o := by rw [take_oz hk, refS_snoc]
theorem RW.skip (h : RW w xs k f v ys W) (hk : k < xs.length) (h1 : ¬ xs[k].k = 1) : RW w xs (k + 1) f v ys W := by
  have e := refS_take hk
  rw [refStep, if_neg (show ¬ xs[k].o.k = 1 from h1)] at e
  have hf := h.f
  refine ⟨h.o, by rw [e]; exact h.r, ?_, by omega⟩
  rw [e, ← h.g, List.take_succ_eq_append_getElem hk, List.drop_append_of_le_length (by rw [List.length_take]; omega), List.map_append]
  rfl
theorem RW.gap (h : RW w xs k f v ys W) (hg : (gy.map Oz.o).reverse = gapR (((xs.take k).drop f).map Oz.o)) (ho : GO w w.heap.size v3 (ys ++ gy) W3) : RM w xs k v3 (ys ++ gy) W3 :=
  ⟨ho, by rw [List.map_append, List.reverse_append, hg, h.r, h.g]; rfl⟩
theorem refS_one (hk : k < xs.length) (h1 : xs[k].k = 1) : refS ((xs.take (k + 1)).map Oz.o) = (rmerge xs[k].o (refR ((xs.take k).map Oz.o)), []) := by
  rw [refS_take hk, refStep, if_pos (show xs[k].o.k = 1 from h1)]; rfl
theorem drop_take (hk : k < xs.length) : ((xs.take (k + 1)).drop (k + 1)).map Oz.o = [] := by
  rw [List.drop_eq_nil_of_le (by rw [List.length_take]; omega)]; rfl
theorem RM.add (h : RM w xs k v ys W) (hk : k < xs.length) (h1 : xs[k].k = 1) (hl : ∀ zs l, ys = zs ++ [l] → ¬ (l.k = 1 ∧ l.pt = xs[k].pt)) (ho : GO w w.heap.size v3 (ys ++ [xs[k]]) W3) : RW w xs (k + 1) (k + 1) v3 (ys ++ [xs[k]]) W3 := by
  refine ⟨ho, ?_, by rw [refS_one hk h1]; exact drop_take hk, Nat.le_refl _⟩
  rw [refS_one hk h1, ← h.r, List.map_append, List.reverse_append]
  rcases nil_or_snoc ys with rfl | ⟨zs, l, rfl⟩
  · rfl
  · have := hl zs l rfl
    simp only [List.map_append, List.reverse_append, List.map_cons, List.map_nil, List.reverse_cons, List.reverse_nil, List.nil_append, List.cons_append]
    rw [rmerge_no _ (show ¬ (l.o.k = 1 ∧ l.o.pt = xs[k].o.pt) from this)]
theorem RM.merge (h : RM w xs k v (zs ++ [l]) W) (hk : k < xs.length) (h1 : xs[k].k = 1) (hl : l.k = 1 ∧ l.pt = xs[k].pt) (h2 : l2.o = { l.o with n := l.n + xs[k].n }) (ho : GO w w.heap.size v3 (zs ++ [l2]) W3) : RW w xs (k + 1) (k + 1) v3 (zs ++ [l2]) W3 := by
  refine ⟨ho, ?_, by rw [refS_one hk h1]; exact drop_take hk, Nat.le_refl _⟩
  rw [refS_one hk h1, ← h.r]
  simp only [List.map_append, List.reverse_append, List.map_cons, List.map_nil, List.reverse_cons, List.reverse_nil, List.nil_append, List.cons_append]
  rw [rmerge_yes _ (show l.o.k = 1 ∧ l.o.pt = xs[k].o.pt from hl), h2]
  rfl
/-- The first so many of what may be. -/
theorem take_tm (ht : Tame xs) (k : Nat) : (∀ o ∈ (xs.take k).map Oz.o, Tm o) ∧ sumN ((xs.take k).map Oz.o) ≤ sumN (xs.map Oz.o) ∧ (∀ o ∈ ((xs.take k).drop f).map Oz.o, Tm o) ∧ sumN (((xs.take k).drop f).map Oz.o) ≤ sumN (xs.map Oz.o) := by
  have h1 : ∀ o ∈ (xs.take k).map Oz.o, Tm o := fun o ho => ht.tm o (by obtain ⟨x, hx, rfl⟩ := List.mem_map.1 ho; exact List.mem_map_of_mem (List.mem_of_mem_take hx))
  have h2 : ∀ o ∈ (xs.drop k).map Oz.o, Tm o := fun o ho => ht.tm o (by obtain ⟨x, hx, rfl⟩ := List.mem_map.1 ho; exact List.mem_map_of_mem (List.mem_of_mem_drop hx))
  have h3 : ∀ o ∈ ((xs.take k).take f).map Oz.o, Tm o := fun o ho => h1 o (by obtain ⟨x, hx, rfl⟩ := List.mem_map.1 ho; exact List.mem_map_of_mem (List.mem_of_mem_take hx))
  have h4 : ∀ o ∈ ((xs.take k).drop f).map Oz.o, Tm o := fun o ho => h1 o (by obtain ⟨x, hx, rfl⟩ := List.mem_map.1 ho; exact List.mem_map_of_mem (List.mem_of_mem_drop hx))
  have e1 : sumN (xs.map Oz.o) = sumN ((xs.take k).map Oz.o) + sumN ((xs.drop k).map Oz.o) := by rw [← sumN_app, ← List.map_append, List.take_append_drop]
  have e2 : sumN ((xs.take k).map Oz.o) = sumN (((xs.take k).take f).map Oz.o) + sumN (((xs.take k).drop f).map Oz.o) := by rw [← sumN_app, ← List.map_append, List.take_append_drop]
  have n1 := sumN_nn h2
  have n2 := sumN_nn h3
  exact ⟨h1, by omega, h4, by omega⟩
theorem take_rs (xs : List Oz) (k f : Nat) : sumR ((xs.take k).map Oz.o) ≤ sumR (xs.map Oz.o) ∧ sumR (((xs.take k).drop f).map Oz.o) ≤ sumR (xs.map Oz.o) := by
  have e1 : sumR (xs.map Oz.o) = sumR ((xs.take k).map Oz.o) + sumR ((xs.drop k).map Oz.o) := by rw [← sumR_app, ← List.map_append, List.take_append_drop]
  have e2 : sumR ((xs.take k).map Oz.o) = sumR (((xs.take k).take f).map Oz.o) + sumR (((xs.take k).drop f).map Oz.o) := by rw [← sumR_app, ← List.map_append, List.take_append_drop]
  omega
theorem RM.eq (h : RM w xs k v ys W) (ht : Tame xs) : (ys.map Oz.o).reverse = tellR ((xs.take k).map Oz.o) := by
  have hn := ht.n
  obtain ⟨h1, h2, -, -⟩ := take_tm (f := 0) ht k
  rw [h.r, (ref_inv _ h1 (by omega)).eq]
theorem RM.len (h : RM w xs k v ys W) (ht : Tame xs) (hk : k ≤ xs.length) : ys.length ≤ k := by
  have hn := ht.n
  obtain ⟨h1, h2, -, -⟩ := take_tm (f := 0) ht k
  have h3 := (tell_kept _ h1 (by omega)).len
  rw [← h.eq ht] at h3
  simp only [List.length_reverse, List.length_map, List.length_take] at h3
  omega
theorem RW.len (h : RW w xs k f v ys W) (ht : Tame xs) (hk : k ≤ xs.length) : ys.length ≤ k := by
  have hn := ht.n
  obtain ⟨h1, h2, -, -⟩ := take_tm (f := 0) ht k
  have h3 := (tell_kept _ h1 (by omega)).len
  rw [← (ref_inv _ h1 (by omega)).eq, refR, ← h.r] at h3
  simp only [List.length_append, List.length_reverse, List.length_map, List.length_take] at h3
  omega
theorem RW.glen (h : RW w xs k f v ys W) (ht : Tame xs) (hk : k ≤ xs.length) (hg : (gy.map Oz.o).reverse = gapR (((xs.take k).drop f).map Oz.o)) : ys.length + gy.length ≤ k := by
  have hn := ht.n
  obtain ⟨h1, h2, -, -⟩ := take_tm (f := 0) ht k
  have h3 := (tell_kept _ h1 (by omega)).len
  rw [← (ref_inv _ h1 (by omega)).eq, refR, ← h.r, ← h.g, ← hg] at h3
  simp only [List.length_append, List.length_reverse, List.length_map, List.length_take] at h3
  omega
theorem RM.all (h : RM w xs xs.length v ys W) (ht : Tame xs) : (ys.map Oz.o).reverse = tellR (xs.map Oz.o) := by
  have := h.eq ht
  rwa [List.take_length] at this
theorem fin_no {X : List Opn} (h : (ys.map Oz.o).reverse = tellR X) (hl : ∀ zs l, ys = zs ++ [l] → ¬ (l.k = 1 ∧ l.pt.length = 0)) : ys.map Oz.o = formO X := by
  rw [formO, ← h]
  rcases nil_or_snoc ys with rfl | ⟨zs, l, rfl⟩
  · rfl
  · have hn := hl zs l rfl
    have e : ((zs ++ [l]).map Oz.o).reverse = l.o :: (zs.map Oz.o).reverse := by simp
    rw [e, settleR_no _ (show ¬ Idle l.o from fun hi => hn ⟨hi.1, by have : l.pt = [] := hi.2; rw [this]; rfl⟩)]
    simp
theorem fin_yes {X : List Opn} (h : ((zs ++ [l]).map Oz.o).reverse = tellR X) (h1 : l.k = 1) (h2 : l.pt.length = 0) : zs.map Oz.o = formO X := by
  rw [formO, ← h]
  have e : ((zs ++ [l]).map Oz.o).reverse = l.o :: (zs.map Oz.o).reverse := by simp
  rw [e, settleR_yes _ (show Idle l.o from ⟨h1, List.eq_nil_of_length_eq_zero h2⟩)]
  simp
theorem RM.mem (h : RM w xs k v ys W) (ht : Tame xs) (hl : l ∈ ys) : 0 ≤ l.n ∧ l.n ≤ sumN ((xs.take k).map Oz.o) ∧ l.rs.length ≤ sumR (xs.map Oz.o) := by
  have hn := ht.n
  obtain ⟨h1, h2, -, -⟩ := take_tm (f := 0) ht k
  have hm : l.o ∈ tellR ((xs.take k).map Oz.o) := by rw [← h.eq ht]; simpa using List.mem_map_of_mem (f := Oz.o) hl
  have q1 := (tell_tm h1 _ hm).nn
  have q2 := sumN_mem (tell_tm h1) hm
  have q3 := tell_sumN _ h1
  have q4 := sumR_mem hm
  have q5 := (tell_kept _ h1 (by omega)).rs
  have q6 := (take_rs xs k 0).1
  have q7 : l.o.rs.length = l.rs.length := rfl
  exact ⟨q1, by have : l.o.n = l.n := rfl; omega, by omega⟩
theorem RW.part (h : RW w xs k f v ys W) (ht : Tame xs) : Gp (((xs.take k).drop f).map Oz.o) ∧ goneO (((xs.take k).drop f).map Oz.o) ≤ 1125899906842624 := by
  have hn := ht.n
  obtain ⟨h1, h2, h3, h4⟩ := take_tm (f := f) ht k
  have h5 := gone_sumN h3
  refine ⟨?_, by omega⟩
  rw [h.g]
  exact (ref_inv _ h1 (by omega)).gp
theorem RM.sm (h : RM w xs k v ys W) (ht : Tame xs) (hr : sumR (xs.map Oz.o) ≤ 1048576) : ∀ z ∈ ys, Sm z := fun z hz => by
  have h1 := (h.mem ht hz).2.2
  have h2 := h.o.el z hz
  exact ⟨by omega, h2.hs, h2.hp⟩
/-- The last op's number laid anew. -/
@[reducible] def numG (l : Oz) (n : Int) : Oz := { l with n := n }
theorem GO.num {w0 : World} {B g c n m : Nat} {q : Int} (h : GO w0 B (.slice (some ⟨g, 0, none⟩) n c) (zs ++ [l]) W) (hn : (zs ++ [l]).length = n) (hm : zs.length = m) :
    GO w0 B (.slice (some ⟨g, 0, none⟩) n c) (zs ++ [numG l q]) (W.setCell ⟨g, m * 5 + 1, none⟩ (.int .i64 q)) := by
  subst hm
  have hl := h.el l (by simp)
  have hj : zs.length < (zs ++ [l]).length := by simp
  have e : (zs ++ [l])[zs.length] = l := by simp
  have := h.set hn hj (z := numG l q) (q := 1) (u := .int .i64 q) ⟨hl.r, hl.s, hl.p, hl.hs, hl.hp⟩ (fl_turn hj 1 (by decide) _ _ (by rw [e]; rfl))
  rwa [set_snoc] at this
/-- out without its last op. -/
theorem GO.cut {w0 : World} {B n c m : Nat} {a : Option Addr} (h : GO w0 B (.slice a n c) (zs ++ [l]) W) (hm : zs.length = m) : Orow W (.slice a m c) zs := by
  subst hm
  have := h.orow.head (hi := zs.length) (by simp)
  rwa [List.take_left] at this
end
end Go.Proofs.Ytnggnfhaokkcmaa
