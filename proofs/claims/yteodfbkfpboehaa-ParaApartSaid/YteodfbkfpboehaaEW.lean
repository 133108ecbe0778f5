
import Derived.Test.YteodfbkfpboehaaEU
/- EW: two records, apart -/
namespace Go.Proofs.Yteodfbkfpboehaa
open Go.RowKit
set_option linter.unusedVariables false
set_option maxRecDepth 100000

/-- Two records in blocks of X, apart from each other: l after k calls, m after j calls; X is from w on. -/
structure L2 (X : Nat → Prop) (w : World) (rb sb k j : Nat) (l m : List (List Att)) (W : World) : Prop where
  ex : ∃ S T : Nat → Prop, Rp S rb l W ∧ Rp T sb m W ∧ (∀ q, S q → X q ∧ q < W.heap.size) ∧ (∀ q, T q → X q ∧ q < W.heap.size) ∧ ∀ q, S q → ¬ T q
  u : Up X W
  b : Below w.heap.size w W
  xs : ∀ q, X q → w.heap.size ≤ q
  p : PB k l
  p2 : PB j m
section
variable {X Y : Nat → Prop} {w W W' : World} {rb sb k j : Nat} {l m l' : List (List Att)}
theorem L2.below (h : L2 X w rb sb k j l m W) (hb : Below W.heap.size W W') : L2 X w rb sb k j l m W' := by
  obtain ⟨S, T, h1, h2, h3, h4, h5⟩ := h.ex
  exact ⟨⟨S, T, h1.below hb, h2.below hb, fun q hq => ⟨(h3 q hq).1, Nat.lt_of_lt_of_le (h3 q hq).2 hb.size⟩, fun q hq => ⟨(h4 q hq).1, Nat.lt_of_lt_of_le (h4 q hq).2 hb.size⟩, h5⟩, h.u.below hb, below_add h.b hb h.b.size, h.xs, h.p, h.p2⟩
theorem L2.swap (h : L2 X w rb sb k j l m W) : L2 X w sb rb j k m l W := by
  obtain ⟨S, T, h1, h2, h3, h4, h5⟩ := h.ex
  exact ⟨⟨T, S, h2, h1, h4, h3, fun q hT hS => h5 q hS hT⟩, h.u, h.b, h.xs, h.p2, h.p⟩
theorem L2.le {k' j' : Nat} (h : L2 X w rb sb k j l m W) (h1 : k ≤ k') (h2 : j ≤ j') : L2 X w rb sb k' j' l m W := ⟨h.ex, h.u, h.b, h.xs, h.p.le h1, h.p2.le h2⟩
theorem L2.mono (h : L2 X w rb sb k j l m W) (hY : ∀ q, q < W.heap.size → X q → Y q) (hu : Up Y W) (hx : ∀ q, Y q → w.heap.size ≤ q) : L2 Y w rb sb k j l m W := by
  obtain ⟨S, T, h1, h2, h3, h4, h5⟩ := h.ex
  exact ⟨⟨S, T, h1, h2, fun q hq => ⟨hY q (h3 q hq).2 (h3 q hq).1, (h3 q hq).2⟩, fun q hq => ⟨hY q (h4 q hq).2 (h4 q hq).1, (h4 q hq).2⟩, h5⟩, hu, h.b, hx, h.p, h.p2⟩
/-- .. beside a new block. -/
theorem L2.beside (h : L2 (fun q => w.heap.size ≤ q) w rb sb k j l m W) (o : Obj) : L2 (fun q => w.heap.size ≤ q ∧ q ≠ W.heap.size) w rb sb k j l m (W.alloc o) := by
  have hz := h.b.size
  obtain ⟨S, T, h1, h2, h3, h4, h5⟩ := h.ex
  have hb := below_alloc1 W o
  refine ⟨⟨S, T, h1.below hb, h2.below hb, fun q hq => ⟨⟨(h3 q hq).1, by have := (h3 q hq).2; omega⟩, Nat.lt_of_lt_of_le (h3 q hq).2 hb.size⟩, fun q hq => ⟨⟨(h4 q hq).1, by have := (h4 q hq).2; omega⟩, Nat.lt_of_lt_of_le (h4 q hq).2 hb.size⟩, h5⟩, fun q hq => ?_, below_add h.b hb hz, fun q hq => hq.1, h.p, h.p2⟩
  rw [World.size_alloc] at hq
  exact ⟨by omega, by omega⟩
theorem L2.all (h : L2 X w rb sb k j l m W) : L2 (fun q => w.heap.size ≤ q) w rb sb k j l m W := h.mono (fun q _ hx => h.xs q hx) (fun q hq => Nat.le_trans h.b.size hq) (fun q hq => hq)
theorem L2.new {w2 w3 : World} (h1 : Rp (fun q => w.heap.size ≤ q ∧ q < w2.heap.size) rb [] w2) (b1 : Below w.heap.size w w2) (h2 : Rp (fun q => w2.heap.size ≤ q ∧ q < w3.heap.size) sb [] w3) (b2 : Below w2.heap.size w2 w3) : L2 (fun q => w.heap.size ≤ q) w rb sb 0 0 [] [] w3 :=
  ⟨⟨_, _, h1.below b2, h2, fun q hq => ⟨hq.1, Nat.lt_of_lt_of_le hq.2 b2.size⟩, fun q hq => ⟨Nat.le_trans b1.size hq.1, hq.2⟩, fun q h1 h2 => by omega⟩, fun q hq => Nat.le_trans (Nat.le_trans b1.size b2.size) hq, below_add b1 b2 b1.size, fun q hq => hq, PB.nil, PB.nil⟩
theorem L2.turn {S T : Nat → Prop} {k' : Nat} (h : L2 X w rb sb k j l m W) (h2 : Rp T sb m W) (h3 : ∀ q, S q → X q ∧ q < W.heap.size) (h4 : ∀ q, T q → X q ∧ q < W.heap.size) (h5 : ∀ q, S q → ¬ T q)
    (hr : ∃ S', Rp S' rb l' W' ∧ (∀ q, S' q → (S q ∨ W.heap.size ≤ q) ∧ q < W'.heap.size) ∧ Off S W W') (p : PB k' l') : L2 X w rb sb k' j l' m W' ∧ Off X W W' := by
  obtain ⟨S', r1, r2, r3⟩ := hr
  have hz := h.b.size
  have ho : Off X W W' := r3.mono (fun q hq => (h3 q hq).1)
  refine ⟨⟨⟨S', T, r1, h2.off r3 (fun q hT hS => h5 q hS hT), fun q hq => ⟨(r2 q hq).1.elim (fun x => (h3 q x).1) (fun x => h.u q x), (r2 q hq).2⟩, fun q hq => ⟨(h4 q hq).1, Nat.lt_of_lt_of_le (h4 q hq).2 r3.size⟩, fun q hS hT => ?_⟩, h.u.off ho, h.b.trans (ho.below h.xs hz), h.xs, p, h.p2⟩, ho⟩
  rcases (r2 q hS).1 with x | x
  · exact h5 q x hT
  · have := (h4 q hT).2; omega
theorem L2.ins (h : L2 X w rb sb k j l m W) (hk : k ≤ 100) {o : OpL} (ho : smallO o) {v : Value} (hv : Nrow w v o.L) :
    Calls Try.prog 11 #[.pointer (some ⟨rb, 0, none⟩), .int .i64 o.i, v] W fun e w' => e = .returned (.int .i64 (mrE l.length o.i o.i)) ∧ L2 X w rb sb (k + 1) j (insL l o.i o.L) m w' ∧ Off X W w' := by
  obtain ⟨S, T, h1, h2, h3, h4, h5⟩ := h.ex
  have hn := h.p.n
  refine (pa_insert h1 (fun q hq => (h3 q hq).2) o.i v (fun W' ho => hv.below (h.b.trans (ho.below (fun q hq => h.xs q (h3 q hq).1) h.b.size)) (Nat.le_refl _)) (fun s hs => by have := (ho.2.2.2 s hs).1; omega) (by have := ho.1; omega)).mono ?_
  rintro e w' ⟨rfl, q⟩
  exact ⟨rfl, h.turn h2 h3 h4 h5 q (h.p.ins ho)⟩
theorem L2.del (h : L2 X w rb sb k j l m W) (hk : k ≤ 100) (a b : Int) :
    Calls Try.prog 12 #[.pointer (some ⟨rb, 0, none⟩), .int .i64 a, .int .i64 b] W fun e w' => e = .returned (.int .i64 (mrE l.length a b)) ∧ L2 X w rb sb (k + 1) j (delL l a b) m w' ∧ Off X W w' := by
  obtain ⟨S, T, h1, h2, h3, h4, h5⟩ := h.ex
  have hn := h.p.n
  refine (pa_delete h1 (fun q hq => (h3 q hq).2) (by omega) a b).mono ?_
  rintro e w' ⟨rfl, q⟩
  exact ⟨rfl, h.turn h2 h3 h4 h5 q (h.p.del a b)⟩
theorem L2.pat (h : L2 X w rb sb k j l m W) (hk : k ≤ 100) {o : OpL} (ho : smallO o) {v : Value} (hv : Crow w v o.x) :
    Calls Try.prog 13 #[.pointer (some ⟨rb, 0, none⟩), .int .i64 o.i, .int .i64 o.m, v] W fun e w' => e = .returned (.int .i64 (mrE l.length o.i o.m)) ∧ L2 X w rb sb (k + 1) j (patL l o.i o.m o.x) m w' ∧ Off X W w' := by
  obtain ⟨S, T, h1, h2, h3, h4, h5⟩ := h.ex
  have hn := h.p.n
  refine (pa_patch h1 (fun q hq => (h3 q hq).2) (by omega) o.i o.m v o.x (fun W' ho => hv.below (h.b.trans (ho.below (fun q hq => h.xs q (h3 q hq).1) h.b.size)) (Nat.le_refl _)) (by have := ho.2.1; omega) (fun s hs => by have := (h.p.s s hs).1; have := ho.2.1; omega)).mono ?_
  rintro e w' ⟨rfl, q⟩
  exact ⟨rfl, h.turn h2 h3 h4 h5 q (h.p.pat ho)⟩
theorem L2.at (h : L2 X w rb sb k j l m W) (hk : k ≤ 100) (n : Nat) (hn : n < l.length) :
    Calls Try.prog 9 #[.pointer (some ⟨rb, 0, none⟩), .int .i64 (n : Nat)] W fun e w' => ∃ a c, e = .returned (.tuple #[.slice a (l.getD n []).length c, .int .i64 0]) ∧ Arow w' (.slice a (l.getD n []).length c) (l.getD n []) ∧ Below W.heap.size W w' := by
  have hp := h.p.n
  obtain ⟨S, T, h1, h2, h3, h4, h5⟩ := h.ex
  refine (pa_at h1 (by omega) (n : Nat)).mono ?_
  rintro e w' ⟨u, rfl, q1, q2⟩
  have hr : (0 : Int) ≤ (n : Nat) ∧ ((n : Nat) : Int) < (l.length : Nat) := ⟨by omega, by omega⟩
  have e1 : atE l (n : Nat) = 0 := by unfold atE; rw [if_pos hr]
  have e2 : atL l (n : Nat) = l.getD n [] := by unfold atL; rw [if_pos hr]; rfl
  rw [e2] at q1
  rw [e1]
  obtain ⟨a, c, rfl⟩ := q1.row.shape
  exact ⟨a, c, rfl, q1.row, q2⟩
theorem L2.len (h : L2 X w rb sb k j l m W) : Calls Try.prog 14 #[.pointer (some ⟨rb, 0, none⟩)] W fun e w' => e = .returned (.int .i64 (l.length : Nat)) ∧ Below W.heap.size W w' := by
  obtain ⟨S, T, h1, h2, h3, h4, h5⟩ := h.ex
  exact pa_len h1
end
end Go.Proofs.Yteodfbkfpboehaa
