
import Derived.Test.YteodfbkfpboehaaEP
/- ES: what the laws share: a slice that Over told; records between two calls of a script -/
namespace Go.Proofs.Yteodfbkfpboehaa
open Go.RowKit
set_option linter.unusedVariables false
set_option maxRecDepth 100000

/-- A slice of sets that reads as L. -/
def Lst (w : World) (v : Value) (L : List (List Att)) : Prop := ∃ ss : List Sv, Row svD w v ss ∧ (∀ z ∈ ss, Arow w z.v z.s) ∧ ss.map Sv.s = L
theorem Lst.of {B C : Nat} {w : World} {v : Value} {ss : List Sv} {L : List (List Att)} (h : Sown B C w v ss) (hL : ss.map Sv.s = L) : Lst w v L := ⟨ss, h.reads.1, h.reads.2, hL⟩
theorem Lst.shape {w : World} {v : Value} {L : List (List Att)} (h : Lst w v L) : ∃ a cap, v = .slice a L.length cap := by
  obtain ⟨ss, h1, -, rfl⟩ := h
  obtain ⟨a, cap, rfl⟩ := h1.shape
  exact ⟨a, cap, by simp⟩
theorem Lst.below {w w' : World} {v : Value} {L : List (List Att)} (h : Lst w v L) (hb : Below w.heap.size w w') : Lst w' v L := by
  obtain ⟨ss, h1, h2, h3⟩ := h
  exact ⟨ss, h1.below hb (Nat.le_refl _), fun x hx => (h2 x hx).below hb (Nat.le_refl _), h3⟩
theorem Lst.opn {w : World} {a : Option Addr} {n cap : Nat} {L : List (List Att)} (h : Lst w (.slice a n cap) L) (h0 : 0 < L.length) :
    ∃ b off, a = some ⟨b, off, none⟩ ∧ n = L.length ∧ L.length ≤ cap ∧ cap ≤ maxLen ∧ b < w.heap.size ∧ (∀ j, j < L.length → ∃ xa xc, w.cell? ⟨b, off + j, none⟩ = some (.slice xa (L.getD j []).length xc) ∧ Arow w (.slice xa (L.getD j []).length xc) (L.getD j [])) := by
  obtain ⟨ss, h1, h3, rfl⟩ := h
  rw [List.length_map] at h0
  obtain ⟨b, off, ha, hn, hc, hm, hb, hat, -⟩ := Row.opened h1 h0
  refine ⟨b, off, ha, by rw [List.length_map]; exact hn, by rw [List.length_map]; exact hc, hm, hb, fun j hj => ?_⟩
  have hj' : j < ss.length := by simpa using hj
  have hr := h3 ss[j] (List.getElem_mem hj')
  have hcell := hat j hj' 0 _ rfl
  rw [show j * svD.m = j from Nat.mul_one j, Nat.add_zero] at hcell
  have e0 : (ss.map Sv.s).getD j [] = ss[j].s := by
    rw [List.getD_eq_getElem?_getD, List.getElem?_map, List.getElem?_eq_getElem hj']; rfl
  rw [e0]
  obtain ⟨xa, xc, e⟩ := hr.shape
  rw [e] at hr hcell
  exact ⟨xa, xc, hcell, hr⟩
theorem law_same (v1 v2 : Value) (xs ys : List Att) (w : World) (h1 : Arow w v1 xs) (h2 : Arow w v2 ys) :
    Calls Try.prog 18 #[v1, v2] w fun e w' => e = .returned (.bool (decide (xs = ys))) ∧ Below w.heap.size w w' := by
  refine (rsame_any5 v1 v2 xs ys w h1 h2).mono ?_
  rintro e w' ⟨rfl, q, rfl⟩
  exact ⟨rfl, blw_drewN (Below.refl _ _) q⟩
theorem fold_take {α β : Type} (f : β → α → β) (b : β) {xs : List α} {k : Nat} (h : k < xs.length) : (xs.take (k + 1)).foldl f b = f ((xs.take k).foldl f b) xs[k] := by
  rw [List.take_succ_eq_append_getElem h, List.foldl_append]; rfl

/-- Records that were made since w, these, after k calls of a script. -/
structure LI (w : World) (rb k : Nat) (l : List (List Att)) (W : World) : Prop where
  r : RX (fun q => w.heap.size ≤ q) rb l W
  b : Below w.heap.size w W
  p : PB k l
section
variable {w W W' : World} {rb k : Nat} {l : List (List Att)}
theorem LI.below (h : LI w rb k l W) (hb : Below W.heap.size W W') : LI w rb k l W' := ⟨h.r.below hb, below_add h.b hb h.b.size, h.p⟩
theorem LI.le {m : Nat} (h : LI w rb k l W) (hk : k ≤ m) : LI w rb m l W := ⟨h.r, h.b, h.p.le hk⟩
theorem LI.ins (h : LI w rb k l W) (hk : k ≤ 100) {o : OpL} (ho : smallO o) {v : Value} (hv : Nrow w v o.L) :
    Calls Try.prog 11 #[.pointer (some ⟨rb, 0, none⟩), .int .i64 o.i, v] W fun e w' => e = .returned (.int .i64 (mrE l.length o.i o.i)) ∧ LI w rb (k + 1) (insL l o.i o.L) w' := by
  have hn := h.p.n
  refine (rx_insert h.r (fun q hq => Nat.le_trans h.b.size hq) o.i v (fun W' ho => hv.below (h.b.trans (ho.below (fun _ q => q) h.b.size)) (Nat.le_refl _)) (fun s hs => by have := (ho.2.2.2 s hs).1; omega) (by have := ho.1; omega)).mono ?_
  rintro e w' ⟨rfl, q1, q2⟩
  exact ⟨rfl, q1, h.b.trans (q2.below (fun _ q => q) h.b.size), h.p.ins ho⟩
theorem LI.del (h : LI w rb k l W) (hk : k ≤ 100) (i j : Int) :
    Calls Try.prog 12 #[.pointer (some ⟨rb, 0, none⟩), .int .i64 i, .int .i64 j] W fun e w' => e = .returned (.int .i64 (mrE l.length i j)) ∧ LI w rb (k + 1) (delL l i j) w' := by
  have hn := h.p.n
  refine (rx_delete h.r (fun q hq => Nat.le_trans h.b.size hq) (by omega) i j).mono ?_
  rintro e w' ⟨rfl, q1, q2⟩
  exact ⟨rfl, q1, h.b.trans (q2.below (fun _ q => q) h.b.size), h.p.del i j⟩
theorem LI.pat (h : LI w rb k l W) (hk : k ≤ 100) {o : OpL} (ho : smallO o) {v : Value} (hv : Crow w v o.x) :
    Calls Try.prog 13 #[.pointer (some ⟨rb, 0, none⟩), .int .i64 o.i, .int .i64 o.m, v] W fun e w' => e = .returned (.int .i64 (mrE l.length o.i o.m)) ∧ LI w rb (k + 1) (patL l o.i o.m o.x) w' := by
  have hn := h.p.n
  refine (rx_patch h.r (fun q hq => Nat.le_trans h.b.size hq) (by omega) o.i o.m v o.x (fun W' ho => hv.below (h.b.trans (ho.below (fun _ q => q) h.b.size)) (Nat.le_refl _)) (by have := ho.2.1; omega) (fun s hs => by have := (h.p.s s hs).1; have := ho.2.1; omega)).mono ?_
  rintro e w' ⟨rfl, q1, q2⟩
  exact ⟨rfl, q1, h.b.trans (q2.below (fun _ q => q) h.b.size), h.p.pat ho⟩
theorem LI.over (h : LI w rb k l W) (hk : k ≤ 100) (i j : Int) :
    Calls Try.prog 10 #[.pointer (some ⟨rb, 0, none⟩), .int .i64 i, .int .i64 j] W fun e w' => ∃ a c, e = .returned (.tuple #[.slice a (ovL l i j).length c, .int .i64 (mrE l.length i j)]) ∧ Lst w' (.slice a (ovL l i j).length c) (ovL l i j) ∧ Below W.heap.size W w' := by
  have hn := h.p.n
  refine (rx_over h.r (by omega) i j).mono ?_
  rintro e w' ⟨v, ss, rfl, q1, q2, q3⟩
  have q := Lst.of q1 q2
  obtain ⟨a, c, rfl⟩ := q.shape
  exact ⟨a, c, rfl, q, q3⟩
theorem LI.at (h : LI w rb k l W) (hk : k ≤ 100) (i : Int) :
    Calls Try.prog 9 #[.pointer (some ⟨rb, 0, none⟩), .int .i64 i] W fun e w' => ∃ a c, e = .returned (.tuple #[.slice a (atL l i).length c, .int .i64 (atE l i)]) ∧ Arow w' (.slice a (atL l i).length c) (atL l i) ∧ Below W.heap.size W w' := by
  have hn := h.p.n
  refine (rx_at h.r (by omega) i).mono ?_
  rintro e w' ⟨u, rfl, q1, q2⟩
  obtain ⟨a, c, rfl⟩ := q1.row.shape
  exact ⟨a, c, rfl, q1.row, q2⟩
theorem LI.len (h : LI w rb k l W) : Calls Try.prog 14 #[.pointer (some ⟨rb, 0, none⟩)] W fun e w' => e = .returned (.int .i64 (l.length : Nat)) ∧ Below W.heap.size W w' := rx_len h.r
end
end Go.Proofs.Yteodfbkfpboehaa
