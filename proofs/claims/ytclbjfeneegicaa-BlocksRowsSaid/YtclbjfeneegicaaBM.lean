
import Derived.Test.YtclbjfeneegicaaBL
/- BM: BlocksRows -/
namespace Go.Proofs.Ytclbjfeneegicaa
open Go.RowKit
set_option linter.unusedVariables false
set_option maxRecDepth 100000

theorem tamep_of {zs zs' : List Bz} (h : TameP zs) (e : zs'.map Bz.b = zs.map Bz.b) : TameP zs' := by
  have hl : zs'.length = zs.length := by have := congrArg List.length e; simpa using this
  have hm : ∀ z ∈ zs', ∃ y ∈ zs, y.b = z.b := fun z hz => by
    have : z.b ∈ zs'.map Bz.b := List.mem_map.2 ⟨z, hz, rfl⟩
    rw [e] at this
    obtain ⟨y, hy, h⟩ := List.mem_map.1 this
    exact ⟨y, hy, h⟩
  have hn : ∀ z ∈ zs', ∃ y ∈ zs, y.n = z.n ∧ y.s = z.s := fun z hz => by
    obtain ⟨y, hy, h⟩ := hm z hz
    unfold Bz.b at h
    injection h with h1 h2
    exact ⟨y, hy, h1, h2⟩
  refine ⟨by rw [hl]; exact h.l, by rw [hl]; exact h.l2, fun z hz => ?_, fun z hz => ?_, fun z hz => ?_, by rw [e]; exact h.e, by rw [e]; exact h.p⟩
  · obtain ⟨y, hy, q, -⟩ := hn z hz; rw [← q]; exact h.n0 y hy
  · obtain ⟨y, hy, q, -⟩ := hn z hz; rw [← q]; exact h.n y hy
  · obtain ⟨y, hy, -, q⟩ := hn z hz; rw [← q]; exact h.s y hy
/-- A block of attributes that may be written over. -/
def FreeA (g n : Nat) (W : World) : Prop := ∃ cur : Array Value, W.heap[g]? = some (.cells cur 39 (0, 0)) ∧ n * 5 ≤ cur.size
theorem FreeA.cell {g n k : Nat} {W : World} (h : FreeA g n W) (hk : k < n) : (∃ v, W.cell? ⟨g, k * 5, none⟩ = some v) ∧ W.frozen? ⟨g, k * 5, none⟩ = false := by
  obtain ⟨cur, hh, hs⟩ := h
  refine ⟨⟨cur[k * 5]'(by omega), ?_⟩, by simp [World.frozen?, hh]⟩
  rw [cell_of_row W g (k * 5) cur _ _ hh]
  exact Array.getElem?_eq_getElem (by omega)
theorem FreeA.set {g n x o : Nat} {W : World} {u : Value} (h : FreeA g n W) : FreeA g n (W.setCell ⟨x, o, none⟩ u) := by
  obtain ⟨cur, hh, hs⟩ := h
  by_cases e : g = x
  · subst e
    exact ⟨_, heap_set u hh, by simpa using hs⟩
  · exact ⟨cur, ((grown_set (w := W) (g := x) (o := o) u).block g (lt_of_heap hh) (fun h => e (by injection h))).trans hh, hs⟩
theorem FreeA.of_own {B g n c : Nat} {W : World} {xs : List Value} (h : W.ownsRow B 39 5 (.slice (some ⟨g, 0, none⟩) n c) n xs) : FreeA g n W ∧ B ≤ g := by
  rcases h.2 with ⟨hn, _⟩ | ⟨g', cap, cur, hv, hB, hg, hc, hm, hs, ht⟩
  · cases hn
  · injection hv with e1 e2 e3
    injection e1 with e1
    injection e1 with e1
    subst e1
    exact ⟨⟨cur, hg, by rw [hs]; exact Nat.mul_le_mul_right _ hc⟩, hB⟩
/-- Blocks that may be written over, sets and all, in memory from B on. -/
structure WrA (B : Nat) (v : Value) (zs : List Bz) (W : World) : Prop where
  row : zs = [] ∨ ∃ g cap, v = .slice (some ⟨g, 0, none⟩) zs.length cap ∧ B ≤ g ∧ ∃ cur : Array Value, W.heap[g]? = some (.cells cur 34 (0, 0)) ∧ zs.length * 2 ≤ cur.size ∧ ∀ k (hk : k < zs.length), cur[k * 2 + 1]? = some (.slice zs[k].a zs[k].s.length zs[k].c)
  sets : ∀ z ∈ zs, z.s = [] ∨ ∃ g, z.a = some ⟨g, 0, none⟩ ∧ B ≤ g ∧ FreeA g z.s.length W
theorem WrA.of_own {B : Nat} {v : Value} {zs : List Bz} {W : World} (h : Zown B W v zs) : WrA B v zs W := by
  refine ⟨?_, fun z hz => ?_⟩
  · by_cases h0 : zs = []
    · exact .inl h0
    · refine .inr ?_
      rcases h.row.2 with ⟨hn, h1⟩ | ⟨g, cap, cur, rfl, hB, hg, hc, hm, hs, ht⟩
      · exact absurd (List.eq_nil_of_length_eq_zero h1) h0
      · refine ⟨g, cap, rfl, hB, cur, hg, by rw [hs]; exact Nat.mul_le_mul_right _ hc, fun k hk => ?_⟩
        have g1 := fl_get bzC zs k 1 hk (by decide)
        have e1 : (fl bzC zs)[k * 2 + 1]? = some (.slice zs[k].a zs[k].s.length zs[k].c) := g1
        rw [← ht, List.getElem?_take] at e1
        split at e1
        · rw [← e1]; simp
        · cases e1
  · have hs := h.sets z hz
    rcases hs.2 with ⟨hn, h1⟩ | ⟨g, cap, cur, hv, hB, hg, -⟩
    · exact .inl (List.eq_nil_of_length_eq_zero h1)
    · injection hv with e1 e2 e3
      refine .inr ⟨g, e1, hB, ?_⟩
      rw [e1] at hs
      exact (FreeA.of_own hs).1
theorem WrA.off {B B' : Nat} {v : Value} {zs : List Bz} {W W' : World} (h : WrA B v zs W) (hb : Below W.heap.size W W') (hB : B' ≤ B) : WrA B' v zs W' := by
  refine ⟨h.row.imp id fun ⟨g, cap, hv, h1, cur, h2, h3⟩ => ⟨g, cap, hv, Nat.le_trans hB h1, cur, (hb.block g (lt_of_heap h2)).trans h2, h3⟩, fun z hz => (h.sets z hz).imp id fun ⟨g, h1, h2, cur, h3, h4⟩ => ⟨g, h1, Nat.le_trans hB h2, cur, (hb.block g (lt_of_heap h3)).trans h3, h4⟩⟩
/-- A write into a set. -/
theorem WrA.att {B x o n : Nat} {v u : Value} {zs : List Bz} {W : World} (h : WrA B v zs W) (hx : FreeA x n W) : WrA B v zs (W.setCell ⟨x, o, none⟩ u) := by
  refine ⟨h.row.imp id fun ⟨g, cap, hv, h1, cur, h2, h3⟩ => ⟨g, cap, hv, h1, cur, ?_, h3⟩, fun z hz => (h.sets z hz).imp id fun ⟨g, h1, h2, h3⟩ => ⟨g, h1, h2, h3.set⟩⟩
  obtain ⟨cx, hx, -⟩ := hx
  refine ((grown_set (w := W) (g := x) (o := o) u).block g (lt_of_heap h2) (fun e => ?_)).trans h2
  injection e with e
  subst e
  rw [h2] at hx
  injection hx with hx
  injection hx with _ hx _
  exact absurd hx (by decide)
/-- A write into a length. -/
theorem WrA.blk {B x k : Nat} {v u : Value} {zs : List Bz} {W : World} (h : WrA B v zs W) (hx : ∃ cur, W.heap[x]? = some (.cells cur 34 (0, 0))) : WrA B v zs (W.setCell ⟨x, k * 2, none⟩ u) := by
  obtain ⟨cx, hx⟩ := hx
  refine ⟨h.row.imp id fun ⟨g, cap, hv, h1, cur, h2, h3, h4⟩ => ⟨g, cap, hv, h1, ?_⟩, fun z hz => (h.sets z hz).imp id fun ⟨g, h1, h2, h3⟩ => ⟨g, h1, h2, h3.set⟩⟩
  by_cases e : g = x
  · subst e
    refine ⟨_, heap_set u h2, by simpa using h3, fun j hj => ?_⟩
    rw [Array.getElem?_setIfInBounds, if_neg (by omega)]
    exact h4 j hj
  · exact ⟨cur, ((grown_set (w := W) (g := x) (o := k * 2) u).block g (lt_of_heap h2) (fun h => e (by injection h))).trans h2, h3, h4⟩
/-- What the law's writes keep: what lay below B, and that the two answers may be written over. -/
structure WrP (w1 : World) (va vb : Value) (za zb : List Bz) (W : World) : Prop where
  bel : Below w1.heap.size w1 W
  a : WrA w1.heap.size va za W
  b : WrA w1.heap.size vb zb W
section
variable {w1 W : World} {va vb u : Value} {za zb : List Bz} {x o n k : Nat}
theorem WrP.att (h : WrP w1 va vb za zb W) (hx : FreeA x n W) (hB : w1.heap.size ≤ x) : WrP w1 va vb za zb (W.setCell ⟨x, o, none⟩ u) :=
  ⟨h.bel.trans ((off_set1 u).below (fun q hq => by subst hq; exact hB) h.bel.size), h.a.att hx, h.b.att hx⟩
theorem WrP.blk (h : WrP w1 va vb za zb W) (hx : ∃ cur, W.heap[x]? = some (.cells cur 34 (0, 0))) (hB : w1.heap.size ≤ x) : WrP w1 va vb za zb (W.setCell ⟨x, k * 2, none⟩ u) :=
  ⟨h.bel.trans ((off_set1 u).below (fun q hq => by subst hq; exact hB) h.bel.size), h.a.blk hx, h.b.blk hx⟩
/-- One of the answers' rows, at a place. -/
theorem WrA.at {B : Nat} {v : Value} {zs : List Bz} (h : WrA B v zs W) (hk : k < zs.length) : ∃ g cap, v = .slice (some ⟨g, 0, none⟩) zs.length cap ∧ B ≤ g ∧ (∃ cur, W.heap[g]? = some (.cells cur 34 (0, 0))) ∧ W.cell? ⟨g, k * 2 + 1, none⟩ = some (.slice zs[k].a zs[k].s.length zs[k].c) ∧ (∃ y, W.cell? ⟨g, k * 2, none⟩ = some y) ∧ W.frozen? ⟨g, k * 2, none⟩ = false := by
  rcases h.row with rfl | ⟨g, cap, hv, hB, cur, h2, h3, h4⟩
  · simp at hk
  · refine ⟨g, cap, hv, hB, ⟨cur, h2⟩, ?_, ⟨cur[k * 2]'(by omega), ?_⟩, by simp [World.frozen?, h2]⟩
    · rw [cell_of_row W g (k * 2 + 1) cur _ _ h2]; exact h4 k hk
    · rw [cell_of_row W g (k * 2) cur _ _ h2]; exact Array.getElem?_eq_getElem (by omega)
theorem WrA.set {B j : Nat} {v : Value} {zs : List Bz} (h : WrA B v zs W) (hk : k < zs.length) (hj : j < zs[k].s.length) : ∃ g, zs[k].a = some ⟨g, 0, none⟩ ∧ B ≤ g ∧ FreeA g zs[k].s.length W := by
  rcases h.sets _ (List.getElem_mem hk) with h0 | h0
  · rw [h0] at hj; simp at hj
  · exact h0
end
/-- The set that At answered may be written over. -/
def SetP (w1 : World) (a : Option Addr) (n : Nat) (W : World) : Prop := n = 0 ∨ ∃ g, a = some ⟨g, 0, none⟩ ∧ w1.heap.size ≤ g ∧ FreeA g n W
theorem SetP.of_own {w1 W : World} {B n c : Nat} {a : Option Addr} {xs : List Value} (h : W.ownsRow B 39 5 (.slice a n c) n xs) (hB : w1.heap.size ≤ B) : SetP w1 a n W := by
  rcases h.2 with ⟨hn, h1⟩ | ⟨g', cap, cur, hv, hB2, hg, hc, hm, hs, ht⟩
  · exact .inl h1
  · injection hv with e1 e2 e3
    exact .inr ⟨g', e1, Nat.le_trans hB hB2, cur, hg, by rw [hs]; exact Nat.mul_le_mul_right _ hc⟩
theorem SetP.at {w1 W : World} {n k : Nat} {a : Option Addr} (h : SetP w1 a n W) (hk : k < n) : ∃ g, a = some ⟨g, 0, none⟩ ∧ w1.heap.size ≤ g ∧ FreeA g n W := h.elim (fun h => by omega) id
theorem SetP.set {w1 W : World} {n x o : Nat} {u : Value} {a : Option Addr} (h : SetP w1 a n W) : SetP w1 a n (W.setCell ⟨x, o, none⟩ u) := h.imp id fun ⟨g, h1, h2, h3⟩ => ⟨g, h1, h2, h3.set⟩
/-- What At answers, told in one form. -/
theorem at_form (v : Value) (zs : List Bz) (i : Int) (w : World) (hv : Zrow w v zs) (h : TameP zs) (hi : i ≤ 9223372036854775807) {L : List (List Att)} (he : ex (zs.map Bz.b) = L) :
    Calls Try.prog 10 #[v, .int .i64 i] w fun e w' => ∃ a s c, e = .returned (.tuple #[.slice a (List.length s) c, .bool (decide (0 ≤ i ∧ i.toNat < L.length))]) ∧ w'.ownsRow w.heap.size 39 5 (.slice a (List.length s) c) s.length (fl attC s) ∧ (0 ≤ i ∧ i.toNat < L.length → L[i.toNat]? = some s) ∧ (¬ (0 ≤ i ∧ i.toNat < L.length) → s = []) ∧ Below w.heap.size w w' :=
  (at_tame v zs i w hv h.l2 h.n h.s hi).mono fun e w' hh => by
    rw [he] at hh
    rcases hh.2 with ⟨s, a, c, h0, q, rfl, ho⟩ | ⟨hn, rfl⟩
    · have hlt := (List.getElem?_eq_some_iff.1 q).1
      exact ⟨a, s, c, by rw [decide_eq_true ⟨h0, hlt⟩], ho, fun _ => q, fun hq => absurd ⟨h0, hlt⟩ hq, hh.1⟩
    · have hnl : ¬ (0 ≤ i ∧ i.toNat < L.length) := fun hq => by omega
      exact ⟨none, [], 0, by rw [decide_eq_false hnl]; rfl, World.ownsRow_nil _ _ _ _, fun hq => absurd hq hnl, fun _ => rfl, hh.1⟩
theorem one_hit {L : List (List Att)} {i : Int} {s : List Att} (h0 : 0 ≤ i) (h : L[i.toNat]? = some s) : (L.take (i + 1).toNat).drop i.toNat = [s] := by
  obtain ⟨hlt, e⟩ := List.getElem?_eq_some_iff.1 h
  rw [show (i + 1).toNat = i.toNat + 1 by omega, List.take_succ_eq_append_getElem hlt, List.drop_append, List.length_take, Nat.min_eq_left (Nat.le_of_lt hlt), Nat.sub_self]
  rw [List.drop_eq_nil_of_le (by rw [List.length_take]; omega), e]
  rfl
theorem one_none {L : List (List Att)} {i j : Int} (h : ¬ (0 ≤ i ∧ i.toNat < L.length)) (hj : j ≤ i + 1) : (L.take j.toNat).drop i.toNat = [] := by
  apply List.drop_eq_nil_of_le
  rw [List.length_take]
  omega
theorem map_one_s {zs : List Bz} {n : Int} {s : List Att} (h : zs.map Bz.b = [⟨n, s⟩]) : ∃ z, zs = [z] ∧ z.s = s := by
  match zs, h with
  | [z], h => exact ⟨z, rfl, by simp only [List.map_cons, List.map_nil, List.cons.injEq, and_true] at h; unfold Bz.b at h; injection h⟩
theorem map_none {zs : List Bz} {p : List (List Att)} (h : Rep (zs.map Bz.b) p) (hp : p = []) : zs = [] := by
  subst hp
  have := h.len
  exact List.eq_nil_of_length_eq_zero (by simpa using this)
theorem ix_pair0 (a1 a2 : Option Addr) (n1 n2 c1 c2 : Nat) (w : World) : (Instr.index 40 (.agg #[.slice a1 n1 c1, .slice a2 n2 c2]) (.int .i64 0)).run Try.prog w = .ok (.slice a1 n1 c1) w := by kernel_rfl
theorem ix_pair1 (a1 a2 : Option Addr) (n1 n2 c1 c2 : Nat) (w : World) : (Instr.index 40 (.agg #[.slice a1 n1 c1, .slice a2 n2 c2]) (.int .i64 1)).run Try.prog w = .ok (.slice a2 n2 c2) w := by kernel_rfl
theorem rep_single (s : List Att) : Rep [⟨1, s⟩] [s] := ⟨⟨by show (0 : Int) < 1; decide, by simp, trivial⟩, rfl⟩
theorem same_in {w : World} {v1 v2 : Value} {xs ys : List Bz} (h1 : Zrow w v1 xs) (h2 : Zrow w v2 ys) (h : xs.map Bz.b = ys.map Bz.b) :
    Calls Try.prog 18 #[v1, v2] w fun e w' => e = .returned (.bool true) ∧ Below w.heap.size w w' :=
  (rsame_any v1 v2 xs ys w h1 h2).mono fun e w' hh => ⟨by rw [hh.1, decide_eq_true h], hh.2⟩
theorem one_row {w w' : World} {i : Int} {L : List (List Att)} {a : Option Addr} {c m : Nat} {zo : List Bz} {s : List Att} (h0 : 0 ≤ i) (h : L[i.toNat]? = some s) (hk : OfK w ((L.take (i + 1).toNat).drop i.toNat) m (.slice a zo.length c) zo w') : ∃ z, zo = [z] ∧ z.s = s := by
  have hr := hk.rep
  rw [one_hit h0 h] at hr
  exact map_one_s ((hr.iff (rep_single s)).2 rfl)
set_option maxHeartbeats 8000000 in
theorem rows_walk (v : Value) (zs : List Bz) (i j : Int) (w : World) (hv : Zrow w v zs) (hwf : ∀ z ∈ zs, z.n ≤ 9223372036854775807) (hsz : ∀ z ∈ zs, z.s.length * 48 ≤ 140737488355328) (hi0 : -9223372036854775808 ≤ i) (hi : i ≤ 9223372036854775807) (hj0 : -9223372036854775808 ≤ j) (hj : j ≤ 9223372036854775807) :
    Calls Try.prog 3 #[v, .int .i64 i, .int .i64 j] w fun e w' => e = .returned (.bool true) ∧ Below w.heap.size w w' := by
  have hlz : zs.length ≤ 9223372036854775807 := hv.row.len
  have HTM := Lib.hid (tame_any v zs w hv)
  obtain ⟨vl, vc, rfl⟩ := hv.shape
  have HV := Lib.hid hv
  have HI := Lib.hid (And.intro hi0 hi)
  have HJ := Lib.hid (And.intro hj0 hj)
  have HWF := Lib.hid hwf
  have HSZ := Lib.hid hsz
  clear hv hwf hsz
  by_cases ht : ¬ Tame zs
  · rw [decide_eq_false ht] at HTM
    clear ht
    by_cases h1000 : zs.length < 1000
    · have g1 : decide ((zs.length : Int) < 1000) = true := by rw [decide_eq_true_iff]; omega
      have HP := Lib.hid (proper_any _ zs w HV.out)
      have HAT := Lib.hid (fun w2 (hb : Below w.heap.size w w2) => (at_any _ zs i w2 (HV.out.below hb) HWF.out HI.out.2 HSZ.out).mono fun e w' hh => (show ∃ u bb, e = .returned (.tuple #[u, .bool bb]) ∧ Below w2.heap.size w2 w' from by
        rcases hh.2 with ⟨t, a, c, -, -, he, -⟩ | ⟨-, he⟩
        · exact ⟨_, _, he, hh.1⟩
        · exact ⟨_, _, he, hh.1⟩))
      have HLE := Lib.hid (fun w2 (hb : Below w.heap.size w w2) => len_any _ zs w2 (HV.out.below hb) HWF.out)
      go_enter Try.func3, Try.ntmps3
      go_wp2_with (first
        | (go_at_call 8; refine HTM.out.mono ?_; rintro e w1 ⟨rfl, hw⟩; have hw := hw.symm; subst hw)
        | (go_at_call 9; refine HP.out.mono ?_; rintro e w1 ⟨rfl, hb⟩; have HB1 := Lib.hid hb; clear hb)
        | (go_at_call 10; refine (HAT.out w1 HB1.out).mono ?_; rintro e w2 ⟨u, bb, rfl, hb⟩; have HB2 := Lib.hid (bl2 HB1.out hb); clear hb)
        | (go_at_call 11; refine (HLE.out w2 HB2.out).mono ?_; rintro e w3 ⟨rfl, hb⟩; have HB3 := Lib.hid (bl2 HB2.out hb); clear hb)
        | (go_at_call 12; refine (kn_end HB3.out).mono ?_; rintro e w4 ⟨rfl, hb4⟩))
      go_ret
      exact ⟨rfl, hb4⟩
    · have g1 : decide ((zs.length : Int) < 1000) = false := by rw [decide_eq_false_iff_not]; omega
      go_enter Try.func3, Try.ntmps3
      go_wp2_with (first
        | (go_at_call 8; refine HTM.out.mono ?_; rintro e w1 ⟨rfl, hw⟩; have hw := hw.symm; subst hw)
        | (go_at_call 12; refine (kn_end (Below.refl w.heap.size w)).mono ?_; rintro e w4 ⟨rfl, hb4⟩))
      go_ret
      exact ⟨rfl, hb4⟩
  have ht := Decidable.not_not.1 ht
  rw [decide_eq_true ht] at HTM
  have HT := Lib.hid ht.p
  clear ht
  obtain ⟨L, hL⟩ : ∃ L, ex (zs.map Bz.b) = L := ⟨_, rfl⟩
  have HL := Lib.hid hL
  have hLb : L.length ≤ 1125899906842624 := by rw [← hL]; exact HT.out.p
  clear hL
  have HCP := Lib.hid (rcopy_any _ zs w HV.out HT.out.l2 HT.out.s)
  go_enter Try.func3, Try.ntmps3
  go_upto_region 10 with (first
    | (go_at_call 8; refine HTM.out.mono ?_; rintro e w1 ⟨rfl, hw⟩; have hw := hw.symm; subst hw)
    | (go_at_call 13; refine HCP.out.mono ?_; rintro e w1 ⟨ia, ic, zi, rfl, q1⟩; have HI1 := Lib.hid q1.own.zrow; have HIE := Lib.hid q1.eq; have HB1 := Lib.hid q1.bel; have HTI := Lib.hid (tamep_of HT.out q1.eq); have HLI := Lib.hid (show ex (zi.map Bz.b) = L from by rw [q1.eq, HL.out]); have HJ2 := Lib.hid (join_any _ zi w1 q1.own.zrow (tamep_of HT.out q1.eq).l2 (tamep_of HT.out q1.eq).n (tamep_of HT.out q1.eq).s); clear q1)
    | (go_at_call 14; refine HJ2.out.mono ?_; rintro e w2 ⟨aa, ac, za, rfl, q1, q2, q3, q4⟩; have HA2 := Lib.hid q1; have HAR := Lib.hid (show Rep (za.map Bz.b) L from by rw [← HLI.out]; exact q2); have HAL := Lib.hid q3; have HD2 := Lib.hid q4; have HC3 := Lib.hid (cut_any _ zi i j w2 (HI1.out.below q4) HTI.out.l2 HTI.out.n HTI.out.s HI.out.2 HJ.out.1 HJ.out.2); clear q1 q2 q3 q4)
    | (go_at_call 15; refine HC3.out.mono ?_; rintro e w3 ⟨ba, bc, zb, rfl, q1, q2, q3, q4⟩; have HA3 := Lib.hid (HA2.out.below q4); have HB3 := Lib.hid q1; have HBR := Lib.hid (show Rep (zb.map Bz.b) ((L.take j.toNat).drop i.toNat) from by rw [← HLI.out]; exact q2); have HBL := Lib.hid q3; have HD3 := Lib.hid (bl2 HD2.out q4); have HW23 := Lib.hid q4.size; have HJ4 := Lib.hid (rjoin_any _ zs w3 (HV.out.below (HB1.out.trans (HD3.out.mono HB1.out.size))) HT.out.l2 HT.out.n HT.out.s); clear q1 q2 q3 q4)
    | (go_at_call 16; refine HJ4.out.mono ?_; rintro e w4 ⟨xa, xc, zx, rfl, q1⟩; have HX4 := Lib.hid q1.own.zrow; have HXR := Lib.hid (show Rep (zx.map Bz.b) L from by rw [← HL.out]; exact q1.rep); have HA4 := Lib.hid (HA3.out.below q1.bel); have HB4 := Lib.hid (HB3.out.below q1.bel); have HD4 := Lib.hid (bl2 HD3.out q1.bel); have HC5 := Lib.hid (rcut_any _ zs i j w4 (HV.out.below (HB1.out.trans (HD4.out.mono HB1.out.size))) HT.out.l2 HT.out.n0 HT.out.s HI.out.2 HJ.out.1 HJ.out.2); clear q1)
    | (go_at_call 17; refine HC5.out.mono ?_; rintro e w5 ⟨ya, yc, zy, rfl, q1⟩; have HY5 := Lib.hid q1.own.zrow; have HYR := Lib.hid (show Rep (zy.map Bz.b) ((L.take j.toNat).drop i.toNat) from by rw [← HL.out]; exact q1.rep); have HX5 := Lib.hid (HX4.out.below q1.bel); have HA5 := Lib.hid (HA4.out.below q1.bel); have HB5 := Lib.hid (HB4.out.below q1.bel); have HD5 := Lib.hid (bl2 HD4.out q1.bel); clear q1))
  have HS6 := Lib.hid (same_yes HA5.out.zrow HX5.out HAR.out HXR.out rfl)
  have HS7 := Lib.hid (fun w6 (hb : Below w5.heap.size w5 w6) => same_yes (HB5.out.zrow.below hb) (HY5.out.below hb) HBR.out HYR.out rfl)
  have HP8 := Lib.hid (fun w6 (hb : Below w1.heap.size w1 w6) => (proper_any _ zi w6 (HI1.out.below hb)).mono fun e w' hh => (show e = .returned (.bool (prpB (zs.map Bz.b))) ∧ Below w6.heap.size w6 w' from ⟨by rw [hh.1, HIE.out], hh.2⟩))
  have HP9 := Lib.hid (fun w6 (hb : Below w1.heap.size w1 w6) => rproper_any _ zs w6 (HV.out.below (HB1.out.trans (hb.mono HB1.out.size))) HT.out.l2 HT.out.n HT.out.s)
  have HL8 := Lib.hid (fun w6 (hb : Below w1.heap.size w1 w6) => (len_any _ zi w6 (HI1.out.below hb) (fun z hz => Int.le_trans (HTI.out.n z hz) (by decide))).mono fun e w' hh => (show e = .returned (.int .i64 (L.length : Nat)) ∧ Below w6.heap.size w6 w' from ⟨by rw [hh.1, len_tame HTI.out.l2 HTI.out.n, HLI.out], hh.2⟩))
  have HL9 := Lib.hid (fun w6 (hb : Below w1.heap.size w1 w6) => (rlen_any _ zs w6 (HV.out.below (HB1.out.trans (hb.mono HB1.out.size))) HT.out.l2 HT.out.n0).mono fun e w' hh => (show e = .returned (.int .i64 (L.length : Nat)) ∧ w' = w6 from ⟨by rw [hh.1]; unfold lenB; rw [HL.out], hh.2⟩))
  have HAT := Lib.hid (fun w6 (hb : Below w1.heap.size w1 w6) => at_form _ zi i w6 (HI1.out.below hb) HTI.out HI.out.2 HLI.out)
  obtain ⟨ad, had⟩ : ∃ d, decide (0 ≤ i ∧ i.toNat < L.length) = d := ⟨_, rfl⟩
  rw [had] at HAT
  obtain ⟨dp, hdp⟩ : ∃ d, prpB (zs.map Bz.b) = d := ⟨_, rfl⟩
  rw [hdp] at HP8 HP9
  clear hdp
  go_upto_region 13 with (first
    | (go_at_call 18; (with_reducible refine HS6.out.mono ?_); rintro e w6 ⟨rfl, hb⟩; have HE6 := Lib.hid hb; have HD6 := Lib.hid (bl2 HD5.out hb); clear hb)
    | (go_at_call 18; (with_reducible refine (HS7.out w6 HE6.out).mono ?_); rintro e w7 ⟨rfl, hb⟩; have HE7 := Lib.hid (bl2 HE6.out hb); have HD7 := Lib.hid (bl2 HD6.out hb); clear hb)
    | (go_at_call 9; (with_reducible refine (HP8.out w7 HD7.out).mono ?_); rintro e w8 ⟨rfl, hb⟩; have HE8 := Lib.hid (bl2 HE7.out hb); have HD8 := Lib.hid (bl2 HD7.out hb); clear hb)
    | (go_at_call 19; (with_reducible refine (HP9.out w8 HD8.out).mono ?_); rintro e w9 ⟨rfl, hb⟩; have HE9 := Lib.hid (bl2 HE8.out hb); have HD9 := Lib.hid (bl2 HD8.out hb); clear hb)
    | (go_at_call 11; (with_reducible refine (HL8.out w9 HD9.out).mono ?_); rintro e w10 ⟨rfl, hb⟩; have HE10 := Lib.hid (bl2 HE9.out hb); have HD10 := Lib.hid (bl2 HD9.out hb); clear hb)
    | (go_at_call 20; (with_reducible refine (HL9.out w10 HD10.out).mono ?_); rintro e wz ⟨rfl, hw⟩; have hw := hw.symm; subst hw)
    | (go_at_call 10; (with_reducible refine (HAT.out w10 HD10.out).mono ?_); rintro e w11 ⟨sa, ss, sc, rfl, q1, q2, q3, hb⟩; have HSO := Lib.hid q1; have HSY := Lib.hid q2; have HSN := Lib.hid q3; have HE11 := Lib.hid (bl2 HE10.out hb); have HD11 := Lib.hid (bl2 HD10.out hb); have HSB := Lib.hid HD10.out.size; clear q1 q2 q3 hb))
  by_cases hh : 0 ≤ i ∧ i.toNat < L.length
  · have hs := HSY.out hh
    obtain rfl : true = ad := by rw [← had, decide_eq_true hh]
    have hi1 : i + 1 ≤ 9223372036854775807 := by omega
    have hi2 : -9223372036854775808 ≤ i + 1 := by omega
    have hne : ¬ i = 9223372036854775807 := by omega
    have g14 : decide (i = 9223372036854775807) = false := decide_eq_false hne
    have e81 : IntKind.i64.wrap (i + 1) = i + 1 := by rw [IntKind.wrap_i64]; omega
    have hsl : ss.length ≤ 1000 := Nat.le_trans (HTI.out.e ss (by rw [HLI.out]; exact List.mem_of_getElem? hs)) (by decide)
    have HC := Lib.hid ((rcut_any _ zs i (i + 1) w11 (HV.out.below (HB1.out.trans (HD11.out.mono HB1.out.size))) HT.out.l2 HT.out.n0 HT.out.s HI.out.2 hi2 hi1).mono fun e w' q => (show ∃ (b o c : Nat) (y : Bz), e = .returned (.slice (some ⟨b, o, none⟩) 1 c) ∧ y.s = ss ∧ 1 ≤ c ∧ w'.cell? ⟨b, o + 1, none⟩ = some (.slice y.a y.s.length y.c) ∧ Arow w' (.slice y.a y.s.length y.c) y.s ∧ Below w11.heap.size w11 w' from by
      obtain ⟨a, c, zo, rfl, hk⟩ := q
      rw [HL.out] at hk
      obtain ⟨y, rfl, hy⟩ := one_row hh.1 hs hk
      obtain ⟨b, o, rfl, hn1, hn2, -, -, hat⟩ := hk.own.zrow.opn (by simp)
      exact ⟨b, o, c, y, rfl, hy, hn2, by have := (hat 0 (by simp)).2.1; simpa using this, (hat 0 (by simp)).2.2, hk.bel⟩))
    clear hs
    go_upto_region 16 with (first
      | (go_at_call 17; refine HC.out.mono ?_; rintro e w12 ⟨ob, oo, oc, y, rfl, hy, h1c, hyc, hya, hb⟩; have HE12 := Lib.hid (bl2 HE11.out hb); have HD12 := Lib.hid (bl2 HD11.out hb); have HSM := Lib.hid ((rsame_anyB _ _ ss y.s w12 ((att_row HSO.out).below hb (Nat.le_refl _)) hya).mono fun e w' hh => (show e = .returned (.bool true) ∧ Below w12.heap.size w12 w' from ⟨by rw [hh.1, decide_eq_true hy.symm], hh.2⟩)); have HS12 := Lib.hid (owns_below HSO.out hb); clear hy hya hb))
    go_upto_region 18 with (first
      | (go_at_call 21; refine HSM.out.mono ?_; rintro e w13 ⟨rfl, hb⟩; have HE13 := Lib.hid (bl2 HE12.out hb); have HD13 := Lib.hid (bl2 HD12.out hb); have HS12 := Lib.hid (owns_below HS12.out hb); clear hb))
    have HSP := Lib.hid (SetP.of_own HS12.out HSB.out)
    have HW0 := Lib.hid (show WrP w1 (.slice aa za.length ac) (.slice ba zb.length bc) za zb w13 from ⟨HD13.out, (WrA.of_own HA5.out).off HE13.out (Nat.le_refl _), (WrA.of_own HB5.out).off HE13.out HD2.out.size⟩)
    obtain ⟨va, hva⟩ : ∃ v, Value.slice aa za.length ac = v := ⟨_, rfl⟩
    obtain ⟨vb, hvb⟩ : ∃ v, Value.slice ba zb.length bc = v := ⟨_, rfl⟩
    rw [hva, hvb] at HW0
    have HVza := Lib.hid hva
    have HVzb := Lib.hid hvb
    clear hva hvb
    have HLza := Lib.hid (show za.length ≤ 1000 from Nat.le_trans HAL.out HTI.out.l2)
    have HLzb := Lib.hid (show zb.length ≤ 1000 from Nat.le_trans HBL.out HTI.out.l2)
    have HSza := Lib.hid (part_bounds HTI.out HAR.out (by rw [HLI.out]; exact Nat.le_refl _) (fun s hs => by rw [HLI.out]; exact hs)).2
    have HSzb := Lib.hid (part_bounds HTI.out HBR.out (by rw [HLI.out]; exact take_le _ _ _) (fun s hs => by rw [HLI.out]; exact take_sub _ _ _ s hs)).2
    go_wp2_with fail
    go_loopw [113] (fun s113 wr => ∃ k : Nat, k ≤ ss.length ∧ s113 = .int .i64 k ∧ Hid (WrP w1 va vb za zb wr ∧ SetP w1 sa ss.length wr)) (fun s113 _ => ss.length - (intOf s113).toNat)
    case atStart => exact ⟨0, Nat.zero_le _, rfl, Lib.hid ⟨HW0.out, HSP.out⟩⟩
    case round =>
      obtain ⟨k, hk, rfl, HK⟩ := hrel
      by_cases hlt : k < ss.length
      · obtain ⟨gs, hgs, hgB, hfr⟩ := HK.out.2.at hlt
        obtain ⟨⟨y0, hy0⟩, hf0⟩ := hfr.cell hlt
        have HW := Lib.hid (fun o u => And.intro (HK.out.1.att (o := o) (u := u) hfr hgB) (HK.out.2.set (x := gs) (o := o) (u := u)))
        have g7 : decide ((k : Int) < (ss.length : Int)) = true := by rw [decide_eq_true_iff]; omega
        subst hgs
        clear hfr
        go_wp2_with fail
        go_roundw
        case rel => exact ⟨k + 1, by omega, by go_num, Lib.hid (HW.out _ _)⟩
        case measure => simp [intOf]; omega
      · obtain rfl : k = ss.length := by omega
        have g7 : decide ((ss.length : Int) < (ss.length : Int)) = false := by rw [decide_eq_false_iff_not]; omega
        have HWP := Lib.hid HK.out.1
        go_wp2_with fail
        go_loopw [124] (fun s124 wr => ∃ r : Int, (r = 0 ∨ r = 1 ∨ r = 2) ∧ s124 = .int .i64 r ∧ Hid (WrP w1 va vb za zb wr)) (fun s124 _ => 2 - (intOf s124).toNat)
        case atStart => exact ⟨0, .inl rfl, rfl, HWP⟩
        case round =>
          obtain ⟨r, hr, rfl, HR⟩ := hrel
          have ix0 := ix_pair0 aa ba za.length zb.length ac bc
          have ix1 := ix_pair1 aa ba za.length zb.length ac bc
          rcases hr with rfl | rfl | rfl
          · have hlza := HLza.out
            go_wp2_with fail
            go_loopw [129] (fun s129 wq => ∃ k : Nat, k ≤ za.length ∧ s129 = .int .i64 k ∧ Hid (WrP w1 va vb za zb wq)) (fun s129 _ => za.length - (intOf s129).toNat)
            case atStart => exact ⟨0, Nat.zero_le _, rfl, HR⟩
            case round =>
              obtain ⟨k, hk, rfl, HQ⟩ := hrel
              by_cases hlt : k < za.length
              · obtain ⟨g, cap, hv, hgB, hgc, hc1, -, -⟩ := HQ.out.a.at hlt
                have HGB := Lib.hid hgB
                have eza := HVza.out
                rw [hv] at eza
                injection eza with q1 q2 q3
                subst q1 q3
                have g9 : decide ((k : Int) < (za.length : Int)) = true := by rw [decide_eq_true_iff]; omega
                have HZL := Lib.hid (HSza.out _ (List.getElem_mem hlt))
                have HAT2 := Lib.hid (fun wq (hq : WrP w1 va vb za zb wq) => hq.a.at hlt)
                have HST2 := Lib.hid (fun wq (hq : WrP w1 va vb za zb wq) j hj => hq.a.set (j := j) hlt hj)
                obtain ⟨z, hz⟩ : ∃ z, za[k] = z := ⟨_, rfl⟩
                rw [hz] at hc1 HAT2 HST2 HZL
                have HLK := Lib.hid hlt
                have HQ0 := HQ
                clear hz hgc hv hgB
                have hzl := HZL.out
                go_wp2
                go_loopw [138] (fun s138 wq => ∃ m : Nat, m ≤ z.s.length ∧ s138 = .int .i64 m ∧ Hid (WrP w1 va vb za zb wq)) (fun s138 _ => z.s.length - (intOf s138).toNat)
                case atStart => exact ⟨0, Nat.zero_le _, rfl, HQ0⟩
                case round =>
                  obtain ⟨m, hm, rfl, HM⟩ := hrel
                  by_cases hmlt : m < z.s.length
                  · obtain ⟨gs, hgs, hgsB, hfr⟩ := HST2.out _ HM.out m hmlt
                    obtain ⟨g2, cap2, hv2, -, -, hc2, -, -⟩ := HAT2.out _ HM.out
                    have e2za := HVza.out
                    rw [hv2] at e2za
                    injection e2za with q4 q5 q6
                    injection q4 with q4
                    injection q4 with q4
                    subst q4
                    have g10 : decide ((m : Int) < (z.s.length : Int)) = true := by rw [decide_eq_true_iff]; omega
                    obtain ⟨⟨y, hy⟩, hf⟩ := hfr.cell hmlt
                    have HW := Lib.hid (fun o u => HM.out.att (o := o) (u := u) hfr hgsB)
                    rw [hgs] at hc2
                    clear hgs hfr hv2 q5 q6
                    go_wp2
                    go_roundw
                    case rel => exact ⟨m + 1, by omega, by go_num, Lib.hid (HW.out _ _)⟩
                    case measure => simp [intOf]; omega
                  · obtain rfl : m = z.s.length := by omega
                    have g10 : decide ((z.s.length : Int) < (z.s.length : Int)) = false := by rw [decide_eq_false_iff_not]; omega
                    obtain ⟨g2, cap2, hv2, hgB2, hcu, -, ⟨y, hy⟩, hf⟩ := HAT2.out _ HM.out
                    have e2za := HVza.out
                    rw [hv2] at e2za
                    injection e2za with q4 q5 q6
                    injection q4 with q4
                    injection q4 with q4
                    subst q4
                    have HW := Lib.hid (fun u => HM.out.blk (k := k) (u := u) hcu hgB2)
                    clear hcu hgB2 hv2 q5 q6
                    go_wp2
                    go_roundw
                    case rel => exact ⟨k + 1, by omega, by go_num, Lib.hid (HW.out _)⟩
                    case measure => simp [intOf]; omega
              · obtain rfl : k = za.length := by omega
                have g9 : decide ((za.length : Int) < (za.length : Int)) = false := by rw [decide_eq_false_iff_not]; omega
                go_wp2
                go_roundw
                case rel => exact ⟨1, .inr (.inl rfl), by go_num, HQ⟩
                case measure => simp [intOf]
          · have hlzb := HLzb.out
            go_wp2_with fail
            go_loopw [129] (fun s129 wq => ∃ k : Nat, k ≤ zb.length ∧ s129 = .int .i64 k ∧ Hid (WrP w1 va vb za zb wq)) (fun s129 _ => zb.length - (intOf s129).toNat)
            case atStart => exact ⟨0, Nat.zero_le _, rfl, HR⟩
            case round =>
              obtain ⟨k, hk, rfl, HQ⟩ := hrel
              by_cases hlt : k < zb.length
              · obtain ⟨g, cap, hv, hgB, hgc, hc1, -, -⟩ := HQ.out.b.at hlt
                have HGB := Lib.hid hgB
                have ezb := HVzb.out
                rw [hv] at ezb
                injection ezb with q1 q2 q3
                subst q1 q3
                have g9 : decide ((k : Int) < (zb.length : Int)) = true := by rw [decide_eq_true_iff]; omega
                have HZL := Lib.hid (HSzb.out _ (List.getElem_mem hlt))
                have HAT2 := Lib.hid (fun wq (hq : WrP w1 va vb za zb wq) => hq.b.at hlt)
                have HST2 := Lib.hid (fun wq (hq : WrP w1 va vb za zb wq) j hj => hq.b.set (j := j) hlt hj)
                obtain ⟨z, hz⟩ : ∃ z, zb[k] = z := ⟨_, rfl⟩
                rw [hz] at hc1 HAT2 HST2 HZL
                have HLK := Lib.hid hlt
                have HQ0 := HQ
                clear hz hgc hv hgB
                have hzl := HZL.out
                go_wp2
                go_loopw [138] (fun s138 wq => ∃ m : Nat, m ≤ z.s.length ∧ s138 = .int .i64 m ∧ Hid (WrP w1 va vb za zb wq)) (fun s138 _ => z.s.length - (intOf s138).toNat)
                case atStart => exact ⟨0, Nat.zero_le _, rfl, HQ0⟩
                case round =>
                  obtain ⟨m, hm, rfl, HM⟩ := hrel
                  by_cases hmlt : m < z.s.length
                  · obtain ⟨gs, hgs, hgsB, hfr⟩ := HST2.out _ HM.out m hmlt
                    obtain ⟨g2, cap2, hv2, -, -, hc2, -, -⟩ := HAT2.out _ HM.out
                    have e2zb := HVzb.out
                    rw [hv2] at e2zb
                    injection e2zb with q4 q5 q6
                    injection q4 with q4
                    injection q4 with q4
                    subst q4
                    have g10 : decide ((m : Int) < (z.s.length : Int)) = true := by rw [decide_eq_true_iff]; omega
                    obtain ⟨⟨y, hy⟩, hf⟩ := hfr.cell hmlt
                    have HW := Lib.hid (fun o u => HM.out.att (o := o) (u := u) hfr hgsB)
                    rw [hgs] at hc2
                    clear hgs hfr hv2 q5 q6
                    go_wp2
                    go_roundw
                    case rel => exact ⟨m + 1, by omega, by go_num, Lib.hid (HW.out _ _)⟩
                    case measure => simp [intOf]; omega
                  · obtain rfl : m = z.s.length := by omega
                    have g10 : decide ((z.s.length : Int) < (z.s.length : Int)) = false := by rw [decide_eq_false_iff_not]; omega
                    obtain ⟨g2, cap2, hv2, hgB2, hcu, -, ⟨y, hy⟩, hf⟩ := HAT2.out _ HM.out
                    have e2zb := HVzb.out
                    rw [hv2] at e2zb
                    injection e2zb with q4 q5 q6
                    injection q4 with q4
                    injection q4 with q4
                    subst q4
                    have HW := Lib.hid (fun u => HM.out.blk (k := k) (u := u) hcu hgB2)
                    clear hcu hgB2 hv2 q5 q6
                    go_wp2
                    go_roundw
                    case rel => exact ⟨k + 1, by omega, by go_num, Lib.hid (HW.out _)⟩
                    case measure => simp [intOf]; omega
              · obtain rfl : k = zb.length := by omega
                have g9 : decide ((zb.length : Int) < (zb.length : Int)) = false := by rw [decide_eq_false_iff_not]; omega
                go_wp2
                go_roundw
                case rel => exact ⟨2, .inr (.inr rfl), by go_num, HQ⟩
                case measure => simp [intOf]
          · have HSE := Lib.hid (fun wq (hq : WrP w1 va vb za zb wq) => same_in (HI1.out.below hq.bel) (HV.out.below (HB1.out.trans (hq.bel.mono HB1.out.size))) HIE.out)
            have HBE := Lib.hid (HB1.out.trans (HR.out.bel.mono HB1.out.size))
            go_wp2_with (first
              | (go_at_call 18; (with_reducible refine (HSE.out _ HR.out).mono ?_); rintro e w20 ⟨rfl, hb⟩; have HB20 := Lib.hid (bl2 HBE.out hb); clear hb)
              | (go_at_call 12; (with_reducible refine (kn_end HB20.out).mono ?_); rintro e w21 ⟨rfl, hb21⟩))
            go_ret
            exact ⟨rfl, hb21⟩
  · obtain rfl : false = ad := by rw [← had, decide_eq_false hh]
    have hs0 : ss.length = 0 := by rw [HSN.out hh]; rfl
    have hsl : ss.length ≤ 1000 := by omega
    have g15 : decide ((ss.length : Int) = 0) = true := by rw [decide_eq_true_iff]; omega
    by_cases hm : i = 9223372036854775807
    · have g14 : (i == 9223372036854775807) = true := by rw [hm]; rfl
      have e81 : IntKind.i64.wrap (i + 1) = -9223372036854775808 := by rw [hm, IntKind.wrap_i64]; omega
      clear hm
      have HC := Lib.hid ((rcut_any _ zs i (-9223372036854775808) w11 (HV.out.below (HB1.out.trans (HD11.out.mono HB1.out.size))) HT.out.l2 HT.out.n0 HT.out.s HI.out.2 (by decide) (by decide)).mono fun e w' q => (show ∃ (a : Option Addr) (n c : Nat), e = .returned (.slice a n c) ∧ Below w11.heap.size w11 w' from by
        obtain ⟨a, c, zo, rfl, hk⟩ := q
        exact ⟨a, _, c, rfl, hk.bel⟩))
      go_upto_region 18 with (first
        | (go_at_call 17; refine HC.out.mono ?_; rintro e w12 ⟨oa, on, oc, rfl, hb⟩; have HE12 := Lib.hid (bl2 HE11.out hb); have HD12 := Lib.hid (bl2 HD11.out hb); have HS12 := Lib.hid (owns_below HSO.out hb); clear hb))
      clear hh g14 e81
      have HW0 := Lib.hid (show WrP w1 (.slice aa za.length ac) (.slice ba zb.length bc) za zb w12 from ⟨HD12.out, (WrA.of_own HA5.out).off HE12.out (Nat.le_refl _), (WrA.of_own HB5.out).off HE12.out HD2.out.size⟩)
      obtain ⟨va, hva⟩ : ∃ v, Value.slice aa za.length ac = v := ⟨_, rfl⟩
      obtain ⟨vb, hvb⟩ : ∃ v, Value.slice ba zb.length bc = v := ⟨_, rfl⟩
      rw [hva, hvb] at HW0
      have HVza := Lib.hid hva
      have HVzb := Lib.hid hvb
      clear hva hvb
      have HLza := Lib.hid (show za.length ≤ 1000 from Nat.le_trans HAL.out HTI.out.l2)
      have HLzb := Lib.hid (show zb.length ≤ 1000 from Nat.le_trans HBL.out HTI.out.l2)
      have HSza := Lib.hid (part_bounds HTI.out HAR.out (by rw [HLI.out]; exact Nat.le_refl _) (fun s hs => by rw [HLI.out]; exact hs)).2
      have HSzb := Lib.hid (part_bounds HTI.out HBR.out (by rw [HLI.out]; exact take_le _ _ _) (fun s hs => by rw [HLI.out]; exact take_sub _ _ _ s hs)).2
      go_wp2_with fail
      go_loopw [113] (fun s113 wr => s113 = .int .i64 0 ∧ Hid (WrP w1 va vb za zb wr)) (fun _ _ => 0)
      case atStart => exact ⟨rfl, HW0⟩
      case round =>
        obtain ⟨rfl, HWP⟩ := hrel
        go_wp2_with fail
        go_loopw [124] (fun s124 wr => ∃ r : Int, (r = 0 ∨ r = 1 ∨ r = 2) ∧ s124 = .int .i64 r ∧ Hid (WrP w1 va vb za zb wr)) (fun s124 _ => 2 - (intOf s124).toNat)
        case atStart => exact ⟨0, .inl rfl, rfl, HWP⟩
        case round =>
          obtain ⟨r, hr, rfl, HR⟩ := hrel
          have ix0 := ix_pair0 aa ba za.length zb.length ac bc
          have ix1 := ix_pair1 aa ba za.length zb.length ac bc
          rcases hr with rfl | rfl | rfl
          · have hlza := HLza.out
            go_wp2_with fail
            go_loopw [129] (fun s129 wq => ∃ k : Nat, k ≤ za.length ∧ s129 = .int .i64 k ∧ Hid (WrP w1 va vb za zb wq)) (fun s129 _ => za.length - (intOf s129).toNat)
            case atStart => exact ⟨0, Nat.zero_le _, rfl, HR⟩
            case round =>
              obtain ⟨k, hk, rfl, HQ⟩ := hrel
              by_cases hlt : k < za.length
              · obtain ⟨g, cap, hv, hgB, hgc, hc1, -, -⟩ := HQ.out.a.at hlt
                have HGB := Lib.hid hgB
                have eza := HVza.out
                rw [hv] at eza
                injection eza with q1 q2 q3
                subst q1 q3
                have g9 : decide ((k : Int) < (za.length : Int)) = true := by rw [decide_eq_true_iff]; omega
                have HZL := Lib.hid (HSza.out _ (List.getElem_mem hlt))
                have HAT2 := Lib.hid (fun wq (hq : WrP w1 va vb za zb wq) => hq.a.at hlt)
                have HST2 := Lib.hid (fun wq (hq : WrP w1 va vb za zb wq) j hj => hq.a.set (j := j) hlt hj)
                obtain ⟨z, hz⟩ : ∃ z, za[k] = z := ⟨_, rfl⟩
                rw [hz] at hc1 HAT2 HST2 HZL
                have HLK := Lib.hid hlt
                have HQ0 := HQ
                clear hz hgc hv hgB
                have hzl := HZL.out
                go_wp2
                go_loopw [138] (fun s138 wq => ∃ m : Nat, m ≤ z.s.length ∧ s138 = .int .i64 m ∧ Hid (WrP w1 va vb za zb wq)) (fun s138 _ => z.s.length - (intOf s138).toNat)
                case atStart => exact ⟨0, Nat.zero_le _, rfl, HQ0⟩
                case round =>
                  obtain ⟨m, hm, rfl, HM⟩ := hrel
                  by_cases hmlt : m < z.s.length
                  · obtain ⟨gs, hgs, hgsB, hfr⟩ := HST2.out _ HM.out m hmlt
                    obtain ⟨g2, cap2, hv2, -, -, hc2, -, -⟩ := HAT2.out _ HM.out
                    have e2za := HVza.out
                    rw [hv2] at e2za
                    injection e2za with q4 q5 q6
                    injection q4 with q4
                    injection q4 with q4
                    subst q4
                    have g10 : decide ((m : Int) < (z.s.length : Int)) = true := by rw [decide_eq_true_iff]; omega
                    obtain ⟨⟨y, hy⟩, hf⟩ := hfr.cell hmlt
                    have HW := Lib.hid (fun o u => HM.out.att (o := o) (u := u) hfr hgsB)
                    rw [hgs] at hc2
                    clear hgs hfr hv2 q5 q6
                    go_wp2
                    go_roundw
                    case rel => exact ⟨m + 1, by omega, by go_num, Lib.hid (HW.out _ _)⟩
                    case measure => simp [intOf]; omega
                  · obtain rfl : m = z.s.length := by omega
                    have g10 : decide ((z.s.length : Int) < (z.s.length : Int)) = false := by rw [decide_eq_false_iff_not]; omega
                    obtain ⟨g2, cap2, hv2, hgB2, hcu, -, ⟨y, hy⟩, hf⟩ := HAT2.out _ HM.out
                    have e2za := HVza.out
                    rw [hv2] at e2za
                    injection e2za with q4 q5 q6
                    injection q4 with q4
                    injection q4 with q4
                    subst q4
                    have HW := Lib.hid (fun u => HM.out.blk (k := k) (u := u) hcu hgB2)
                    clear hcu hgB2 hv2 q5 q6
                    go_wp2
                    go_roundw
                    case rel => exact ⟨k + 1, by omega, by go_num, Lib.hid (HW.out _)⟩
                    case measure => simp [intOf]; omega
              · obtain rfl : k = za.length := by omega
                have g9 : decide ((za.length : Int) < (za.length : Int)) = false := by rw [decide_eq_false_iff_not]; omega
                go_wp2
                go_roundw
                case rel => exact ⟨1, .inr (.inl rfl), by go_num, HQ⟩
                case measure => simp [intOf]
          · have hlzb := HLzb.out
            go_wp2_with fail
            go_loopw [129] (fun s129 wq => ∃ k : Nat, k ≤ zb.length ∧ s129 = .int .i64 k ∧ Hid (WrP w1 va vb za zb wq)) (fun s129 _ => zb.length - (intOf s129).toNat)
            case atStart => exact ⟨0, Nat.zero_le _, rfl, HR⟩
            case round =>
              obtain ⟨k, hk, rfl, HQ⟩ := hrel
              by_cases hlt : k < zb.length
              · obtain ⟨g, cap, hv, hgB, hgc, hc1, -, -⟩ := HQ.out.b.at hlt
                have HGB := Lib.hid hgB
                have ezb := HVzb.out
                rw [hv] at ezb
                injection ezb with q1 q2 q3
                subst q1 q3
                have g9 : decide ((k : Int) < (zb.length : Int)) = true := by rw [decide_eq_true_iff]; omega
                have HZL := Lib.hid (HSzb.out _ (List.getElem_mem hlt))
                have HAT2 := Lib.hid (fun wq (hq : WrP w1 va vb za zb wq) => hq.b.at hlt)
                have HST2 := Lib.hid (fun wq (hq : WrP w1 va vb za zb wq) j hj => hq.b.set (j := j) hlt hj)
                obtain ⟨z, hz⟩ : ∃ z, zb[k] = z := ⟨_, rfl⟩
                rw [hz] at hc1 HAT2 HST2 HZL
                have HLK := Lib.hid hlt
                have HQ0 := HQ
                clear hz hgc hv hgB
                have hzl := HZL.out
                go_wp2
                go_loopw [138] (fun s138 wq => ∃ m : Nat, m ≤ z.s.length ∧ s138 = .int .i64 m ∧ Hid (WrP w1 va vb za zb wq)) (fun s138 _ => z.s.length - (intOf s138).toNat)
                case atStart => exact ⟨0, Nat.zero_le _, rfl, HQ0⟩
                case round =>
                  obtain ⟨m, hm, rfl, HM⟩ := hrel
                  by_cases hmlt : m < z.s.length
                  · obtain ⟨gs, hgs, hgsB, hfr⟩ := HST2.out _ HM.out m hmlt
                    obtain ⟨g2, cap2, hv2, -, -, hc2, -, -⟩ := HAT2.out _ HM.out
                    have e2zb := HVzb.out
                    rw [hv2] at e2zb
                    injection e2zb with q4 q5 q6
                    injection q4 with q4
                    injection q4 with q4
                    subst q4
                    have g10 : decide ((m : Int) < (z.s.length : Int)) = true := by rw [decide_eq_true_iff]; omega
                    obtain ⟨⟨y, hy⟩, hf⟩ := hfr.cell hmlt
                    have HW := Lib.hid (fun o u => HM.out.att (o := o) (u := u) hfr hgsB)
                    rw [hgs] at hc2
                    clear hgs hfr hv2 q5 q6
                    go_wp2
                    go_roundw
                    case rel => exact ⟨m + 1, by omega, by go_num, Lib.hid (HW.out _ _)⟩
                    case measure => simp [intOf]; omega
                  · obtain rfl : m = z.s.length := by omega
                    have g10 : decide ((z.s.length : Int) < (z.s.length : Int)) = false := by rw [decide_eq_false_iff_not]; omega
                    obtain ⟨g2, cap2, hv2, hgB2, hcu, -, ⟨y, hy⟩, hf⟩ := HAT2.out _ HM.out
                    have e2zb := HVzb.out
                    rw [hv2] at e2zb
                    injection e2zb with q4 q5 q6
                    injection q4 with q4
                    injection q4 with q4
                    subst q4
                    have HW := Lib.hid (fun u => HM.out.blk (k := k) (u := u) hcu hgB2)
                    clear hcu hgB2 hv2 q5 q6
                    go_wp2
                    go_roundw
                    case rel => exact ⟨k + 1, by omega, by go_num, Lib.hid (HW.out _)⟩
                    case measure => simp [intOf]; omega
              · obtain rfl : k = zb.length := by omega
                have g9 : decide ((zb.length : Int) < (zb.length : Int)) = false := by rw [decide_eq_false_iff_not]; omega
                go_wp2
                go_roundw
                case rel => exact ⟨2, .inr (.inr rfl), by go_num, HQ⟩
                case measure => simp [intOf]
          · have HSE := Lib.hid (fun wq (hq : WrP w1 va vb za zb wq) => same_in (HI1.out.below hq.bel) (HV.out.below (HB1.out.trans (hq.bel.mono HB1.out.size))) HIE.out)
            have HBE := Lib.hid (HB1.out.trans (HR.out.bel.mono HB1.out.size))
            go_wp2_with (first
              | (go_at_call 18; (with_reducible refine (HSE.out _ HR.out).mono ?_); rintro e w20 ⟨rfl, hb⟩; have HB20 := Lib.hid (bl2 HBE.out hb); clear hb)
              | (go_at_call 12; (with_reducible refine (kn_end HB20.out).mono ?_); rintro e w21 ⟨rfl, hb21⟩))
            go_ret
            exact ⟨rfl, hb21⟩
    · have g14 : (i == 9223372036854775807) = false := by simpa using hm
      obtain ⟨j1, e81⟩ : ∃ x, IntKind.i64.wrap (i + 1) = x := ⟨_, rfl⟩
      have ej : j1 = i + 1 := by rw [← e81, IntKind.wrap_i64]; omega
      have HC := Lib.hid ((rcut_any _ zs i j1 w11 (HV.out.below (HB1.out.trans (HD11.out.mono HB1.out.size))) HT.out.l2 HT.out.n0 HT.out.s HI.out.2 (by omega) (by omega)).mono fun e w' q => (show ∃ (a : Option Addr) (c : Nat), e = .returned (.slice a 0 c) ∧ Below w11.heap.size w11 w' from by
        obtain ⟨a, c, zo, rfl, hk⟩ := q
        rw [HL.out] at hk
        have hz := map_none hk.rep (one_none hh (Int.le_of_eq ej))
        subst hz
        exact ⟨a, c, rfl, hk.bel⟩))
      clear ej hm hh
      go_upto_region 18 with (first
        | (go_at_call 17; refine HC.out.mono ?_; rintro e w12 ⟨oa, oc, rfl, hb⟩; have HE12 := Lib.hid (bl2 HE11.out hb); have HD12 := Lib.hid (bl2 HD11.out hb); have HS12 := Lib.hid (owns_below HSO.out hb); clear hb))
      clear g14 e81
      have HW0 := Lib.hid (show WrP w1 (.slice aa za.length ac) (.slice ba zb.length bc) za zb w12 from ⟨HD12.out, (WrA.of_own HA5.out).off HE12.out (Nat.le_refl _), (WrA.of_own HB5.out).off HE12.out HD2.out.size⟩)
      obtain ⟨va, hva⟩ : ∃ v, Value.slice aa za.length ac = v := ⟨_, rfl⟩
      obtain ⟨vb, hvb⟩ : ∃ v, Value.slice ba zb.length bc = v := ⟨_, rfl⟩
      rw [hva, hvb] at HW0
      have HVza := Lib.hid hva
      have HVzb := Lib.hid hvb
      clear hva hvb
      have HLza := Lib.hid (show za.length ≤ 1000 from Nat.le_trans HAL.out HTI.out.l2)
      have HLzb := Lib.hid (show zb.length ≤ 1000 from Nat.le_trans HBL.out HTI.out.l2)
      have HSza := Lib.hid (part_bounds HTI.out HAR.out (by rw [HLI.out]; exact Nat.le_refl _) (fun s hs => by rw [HLI.out]; exact hs)).2
      have HSzb := Lib.hid (part_bounds HTI.out HBR.out (by rw [HLI.out]; exact take_le _ _ _) (fun s hs => by rw [HLI.out]; exact take_sub _ _ _ s hs)).2
      go_wp2_with fail
      go_loopw [113] (fun s113 wr => s113 = .int .i64 0 ∧ Hid (WrP w1 va vb za zb wr)) (fun _ _ => 0)
      case atStart => exact ⟨rfl, HW0⟩
      case round =>
        obtain ⟨rfl, HWP⟩ := hrel
        go_wp2_with fail
        go_loopw [124] (fun s124 wr => ∃ r : Int, (r = 0 ∨ r = 1 ∨ r = 2) ∧ s124 = .int .i64 r ∧ Hid (WrP w1 va vb za zb wr)) (fun s124 _ => 2 - (intOf s124).toNat)
        case atStart => exact ⟨0, .inl rfl, rfl, HWP⟩
        case round =>
          obtain ⟨r, hr, rfl, HR⟩ := hrel
          have ix0 := ix_pair0 aa ba za.length zb.length ac bc
          have ix1 := ix_pair1 aa ba za.length zb.length ac bc
          rcases hr with rfl | rfl | rfl
          · have hlza := HLza.out
            go_wp2_with fail
            go_loopw [129] (fun s129 wq => ∃ k : Nat, k ≤ za.length ∧ s129 = .int .i64 k ∧ Hid (WrP w1 va vb za zb wq)) (fun s129 _ => za.length - (intOf s129).toNat)
            case atStart => exact ⟨0, Nat.zero_le _, rfl, HR⟩
            case round =>
              obtain ⟨k, hk, rfl, HQ⟩ := hrel
              by_cases hlt : k < za.length
              · obtain ⟨g, cap, hv, hgB, hgc, hc1, -, -⟩ := HQ.out.a.at hlt
                have HGB := Lib.hid hgB
                have eza := HVza.out
                rw [hv] at eza
                injection eza with q1 q2 q3
                subst q1 q3
                have g9 : decide ((k : Int) < (za.length : Int)) = true := by rw [decide_eq_true_iff]; omega
                have HZL := Lib.hid (HSza.out _ (List.getElem_mem hlt))
                have HAT2 := Lib.hid (fun wq (hq : WrP w1 va vb za zb wq) => hq.a.at hlt)
                have HST2 := Lib.hid (fun wq (hq : WrP w1 va vb za zb wq) j hj => hq.a.set (j := j) hlt hj)
                obtain ⟨z, hz⟩ : ∃ z, za[k] = z := ⟨_, rfl⟩
                rw [hz] at hc1 HAT2 HST2 HZL
                have HLK := Lib.hid hlt
                have HQ0 := HQ
                clear hz hgc hv hgB
                have hzl := HZL.out
                go_wp2
                go_loopw [138] (fun s138 wq => ∃ m : Nat, m ≤ z.s.length ∧ s138 = .int .i64 m ∧ Hid (WrP w1 va vb za zb wq)) (fun s138 _ => z.s.length - (intOf s138).toNat)
                case atStart => exact ⟨0, Nat.zero_le _, rfl, HQ0⟩
                case round =>
                  obtain ⟨m, hm, rfl, HM⟩ := hrel
                  by_cases hmlt : m < z.s.length
                  · obtain ⟨gs, hgs, hgsB, hfr⟩ := HST2.out _ HM.out m hmlt
                    obtain ⟨g2, cap2, hv2, -, -, hc2, -, -⟩ := HAT2.out _ HM.out
                    have e2za := HVza.out
                    rw [hv2] at e2za
                    injection e2za with q4 q5 q6
                    injection q4 with q4
                    injection q4 with q4
                    subst q4
                    have g10 : decide ((m : Int) < (z.s.length : Int)) = true := by rw [decide_eq_true_iff]; omega
                    obtain ⟨⟨y, hy⟩, hf⟩ := hfr.cell hmlt
                    have HW := Lib.hid (fun o u => HM.out.att (o := o) (u := u) hfr hgsB)
                    rw [hgs] at hc2
                    clear hgs hfr hv2 q5 q6
                    go_wp2
                    go_roundw
                    case rel => exact ⟨m + 1, by omega, by go_num, Lib.hid (HW.out _ _)⟩
                    case measure => simp [intOf]; omega
                  · obtain rfl : m = z.s.length := by omega
                    have g10 : decide ((z.s.length : Int) < (z.s.length : Int)) = false := by rw [decide_eq_false_iff_not]; omega
                    obtain ⟨g2, cap2, hv2, hgB2, hcu, -, ⟨y, hy⟩, hf⟩ := HAT2.out _ HM.out
                    have e2za := HVza.out
                    rw [hv2] at e2za
                    injection e2za with q4 q5 q6
                    injection q4 with q4
                    injection q4 with q4
                    subst q4
                    have HW := Lib.hid (fun u => HM.out.blk (k := k) (u := u) hcu hgB2)
                    clear hcu hgB2 hv2 q5 q6
                    go_wp2
                    go_roundw
                    case rel => exact ⟨k + 1, by omega, by go_num, Lib.hid (HW.out _)⟩
                    case measure => simp [intOf]; omega
              · obtain rfl : k = za.length := by omega
                have g9 : decide ((za.length : Int) < (za.length : Int)) = false := by rw [decide_eq_false_iff_not]; omega
                go_wp2
                go_roundw
                case rel => exact ⟨1, .inr (.inl rfl), by go_num, HQ⟩
                case measure => simp [intOf]
          · have hlzb := HLzb.out
            go_wp2_with fail
            go_loopw [129] (fun s129 wq => ∃ k : Nat, k ≤ zb.length ∧ s129 = .int .i64 k ∧ Hid (WrP w1 va vb za zb wq)) (fun s129 _ => zb.length - (intOf s129).toNat)
            case atStart => exact ⟨0, Nat.zero_le _, rfl, HR⟩
            case round =>
              obtain ⟨k, hk, rfl, HQ⟩ := hrel
              by_cases hlt : k < zb.length
              · obtain ⟨g, cap, hv, hgB, hgc, hc1, -, -⟩ := HQ.out.b.at hlt
                have HGB := Lib.hid hgB
                have ezb := HVzb.out
                rw [hv] at ezb
                injection ezb with q1 q2 q3
                subst q1 q3
                have g9 : decide ((k : Int) < (zb.length : Int)) = true := by rw [decide_eq_true_iff]; omega
                have HZL := Lib.hid (HSzb.out _ (List.getElem_mem hlt))
                have HAT2 := Lib.hid (fun wq (hq : WrP w1 va vb za zb wq) => hq.b.at hlt)
                have HST2 := Lib.hid (fun wq (hq : WrP w1 va vb za zb wq) j hj => hq.b.set (j := j) hlt hj)
                obtain ⟨z, hz⟩ : ∃ z, zb[k] = z := ⟨_, rfl⟩
                rw [hz] at hc1 HAT2 HST2 HZL
                have HLK := Lib.hid hlt
                have HQ0 := HQ
                clear hz hgc hv hgB
                have hzl := HZL.out
                go_wp2
                go_loopw [138] (fun s138 wq => ∃ m : Nat, m ≤ z.s.length ∧ s138 = .int .i64 m ∧ Hid (WrP w1 va vb za zb wq)) (fun s138 _ => z.s.length - (intOf s138).toNat)
                case atStart => exact ⟨0, Nat.zero_le _, rfl, HQ0⟩
                case round =>
                  obtain ⟨m, hm, rfl, HM⟩ := hrel
                  by_cases hmlt : m < z.s.length
                  · obtain ⟨gs, hgs, hgsB, hfr⟩ := HST2.out _ HM.out m hmlt
                    obtain ⟨g2, cap2, hv2, -, -, hc2, -, -⟩ := HAT2.out _ HM.out
                    have e2zb := HVzb.out
                    rw [hv2] at e2zb
                    injection e2zb with q4 q5 q6
                    injection q4 with q4
                    injection q4 with q4
                    subst q4
                    have g10 : decide ((m : Int) < (z.s.length : Int)) = true := by rw [decide_eq_true_iff]; omega
                    obtain ⟨⟨y, hy⟩, hf⟩ := hfr.cell hmlt
                    have HW := Lib.hid (fun o u => HM.out.att (o := o) (u := u) hfr hgsB)
                    rw [hgs] at hc2
                    clear hgs hfr hv2 q5 q6
                    go_wp2
                    go_roundw
                    case rel => exact ⟨m + 1, by omega, by go_num, Lib.hid (HW.out _ _)⟩
                    case measure => simp [intOf]; omega
                  · obtain rfl : m = z.s.length := by omega
                    have g10 : decide ((z.s.length : Int) < (z.s.length : Int)) = false := by rw [decide_eq_false_iff_not]; omega
                    obtain ⟨g2, cap2, hv2, hgB2, hcu, -, ⟨y, hy⟩, hf⟩ := HAT2.out _ HM.out
                    have e2zb := HVzb.out
                    rw [hv2] at e2zb
                    injection e2zb with q4 q5 q6
                    injection q4 with q4
                    injection q4 with q4
                    subst q4
                    have HW := Lib.hid (fun u => HM.out.blk (k := k) (u := u) hcu hgB2)
                    clear hcu hgB2 hv2 q5 q6
                    go_wp2
                    go_roundw
                    case rel => exact ⟨k + 1, by omega, by go_num, Lib.hid (HW.out _)⟩
                    case measure => simp [intOf]; omega
              · obtain rfl : k = zb.length := by omega
                have g9 : decide ((zb.length : Int) < (zb.length : Int)) = false := by rw [decide_eq_false_iff_not]; omega
                go_wp2
                go_roundw
                case rel => exact ⟨2, .inr (.inr rfl), by go_num, HQ⟩
                case measure => simp [intOf]
          · have HSE := Lib.hid (fun wq (hq : WrP w1 va vb za zb wq) => same_in (HI1.out.below hq.bel) (HV.out.below (HB1.out.trans (hq.bel.mono HB1.out.size))) HIE.out)
            have HBE := Lib.hid (HB1.out.trans (HR.out.bel.mono HB1.out.size))
            go_wp2_with (first
              | (go_at_call 18; (with_reducible refine (HSE.out _ HR.out).mono ?_); rintro e w20 ⟨rfl, hb⟩; have HB20 := Lib.hid (bl2 HBE.out hb); clear hb)
              | (go_at_call 12; (with_reducible refine (kn_end HB20.out).mono ?_); rintro e w21 ⟨rfl, hb21⟩))
            go_ret
            exact ⟨rfl, hb21⟩
end Go.Proofs.Ytclbjfeneegicaa
