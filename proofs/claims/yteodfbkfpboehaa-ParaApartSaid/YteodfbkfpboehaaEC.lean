
import Derived.Test.YteodfbkfpboehaaEB
import Derived.Test.YteodfbkfpboehaaER
/- UN: what a tree tells of a part of it -/
namespace Go
theorem opIn_wide {n : Nat} {P : Program} {Q : Exit → Act → World → Prop} {a : Act} {w : World} {o : Oper} {K : Act → World → Prop} (h : o.wp P a w K Q) : o.wpIn Fence.wide n P a w K Q := by
  unfold Oper.wp at h
  unfold Oper.wpIn
  have e : o.semAt Fence.wide.round a.eval = execOp a.eval o := rfl
  rw [e]
  refine ⟨fun _ _ => trivial, ?_⟩
  generalize (execOp a.eval o).run P w = r at *
  cases r with
  | ok x w' =>
    cases x with
    | value v => exact h
    | skip => exact h
    | defer d => exact h
    | enter f args => exact ⟨fun h => (by cases h), callsIn_wide.2 h⟩
    | row row args =>
      refine ⟨fun h => (by cases h), fun c cs _ => ?_⟩
      obtain ⟨v, w2, r, s⟩ := h c cs
      exact ⟨v, w2, r, stepsIn_wide.2 s⟩
    | _ => exact h.elim
  | halt x w' =>
    cases x with
    | panic v => exact h
    | _ => exact h.elim
/-- A whole row loaded, in the walk over ranges. -/
theorem wpListIn_load_roww {n : Nat} {P : Program} {ops : Array Oper} {rest : List Oper} {o : Oper} {a : Act} {w : World} {Q : Exit → Act → World → Prop} (ty : TypeId) (x : Operand) (ho : o.op = .load ty x) (hgd : o.guard = none)
    (g : Nat) (hx : a.eval x = .pointer (some ⟨g, 0, none⟩)) (t : TypeId) (cs : Array Value) (fr : Nat × Nat) (d : TypeDesc) (hg : w.heap[g]? = some (.cells cs t fr))
    (hu : P.underlying ty = some d) (hd : (match d with | .struct _ | .array _ _ => true | _ => false) = true) (hi : (P.info? ty).map (·.size) = some cs.size)
    (h : wpListIn Fence.wide n P ops Q rest (a.put o.dst (.agg cs)) w) : wpListIn Fence.wide n P ops Q (o :: rest) a w :=
  wpListIn_plain hgd fun _ hK => opIn_wide (wp_load_row ty x ho g hx t cs fr d hg hu hd hi (hK _ _ h))
theorem room_of_none {F : Fence} (hd : F.depth = none) (k : Nat) : F.room k := fun d h => by rw [hd] at h; cases h
theorem RoundIn.anyDepth {F : Fence} (hd : F.depth = none) {m m' : Nat} {P : Program} {l : Nat} {f : FuncId} {tmps : Array Value} {assign body : Code} {w : World} {R : Ending → World → Prop}
    (h : RoundIn F m P l f tmps assign body w R) : RoundIn F m' P l f tmps assign body w R := ⟨h.1, fun c cs _ => h.2 c cs (room_of_none hd _)⟩
theorem YieldAt.anyDepth {F : Fence} (hd : F.depth = none) {m : Nat} (m' : Nat) {P : Program} {l : Nat} {args : Array Value} {W : World} {R : Ending → World → Prop} (h : YieldAt F m P l args W R) : YieldAt F m' P l args W R := by
  obtain ⟨fn, tmps, assign, body, hy, hR⟩ := h
  exact ⟨fn, tmps, assign, body, hy, RoundIn.anyDepth hd hR⟩
end Go
namespace Go.Proofs.Yteodfbkfpboehaa
open Go.RowKit Go.Shelf
set_option linter.unusedVariables false
set_option maxRecDepth 100000
attribute [local go_sem] Oper.semAt_some

/-- What of a span stands between two places, whatever they are. -/
def pcv (x : Ck) (i j : Int) : Ck := ⟨(min j (x.n : Int) - max i 0).toNat, x.d⟩
def pieceO (x : Ck) (i j : Int) : List Ck := if i < (x.n : Int) ∧ 0 < j ∧ i < j then [pcv x i j] else []
/-- What of spans stands between two places. -/
def ptc : List Ck → Int → Int → List Ck
  | [], _, _ => []
  | x :: r, i, j => pieceO x i j ++ ptc r (i - (x.n : Int)) (j - (x.n : Int))
theorem ptc_app : ∀ (a b : List Ck) (i j : Int), ptc (a ++ b) i j = ptc a i j ++ ptc b (i - (lnS a : Nat)) (j - (lnS a : Nat))
  | [], b, i, j => by show ptc b i j = ptc b (i - 0) (j - 0); rw [Int.sub_zero, Int.sub_zero]
  | x :: a, b, i, j => by
    show pieceO x i j ++ ptc (a ++ b) _ _ = (pieceO x i j ++ ptc a _ _) ++ _
    rw [ptc_app a b, List.append_assoc, lnS_cons, show i - (x.n : Int) - (lnS a : Nat) = i - ((x.n + lnS a : Nat) : Int) by omega, show j - (x.n : Int) - (lnS a : Nat) = j - ((x.n + lnS a : Nat) : Int) by omega]
theorem ptc_le : ∀ {l : List Ck} {i j : Int}, j ≤ 0 → ptc l i j = []
  | [], _, _, _ => rfl
  | x :: r, i, j, h => by
    show pieceO x i j ++ ptc r _ _ = []
    rw [ptc_le (by omega)]
    unfold pieceO
    rw [if_neg (by omega)]; rfl
theorem ptc_ge : ∀ {l : List Ck} {i j : Int}, ((lnS l : Nat) : Int) ≤ i → ptc l i j = []
  | [], _, _, _ => rfl
  | x :: r, i, j, h => by
    rw [lnS_cons] at h
    show pieceO x i j ++ ptc r _ _ = []
    rw [ptc_ge (by omega)]
    unfold pieceO
    rw [if_neg (by omega)]; rfl
theorem ptc_len : ∀ (l : List Ck) (i j : Int), (ptc l i j).length ≤ l.length
  | [], _, _ => Nat.le_refl _
  | x :: r, i, j => by
    show (pieceO x i j ++ ptc r _ _).length ≤ _
    have := ptc_len r (i - (x.n : Int)) (j - (x.n : Int))
    rw [List.length_append, List.length_cons]
    unfold pieceO
    split <;> simp <;> omega
/-- The part of a list between two places, whatever they are. -/
def part (l : List (List Att)) (i j : Int) : List (List Att) := (l.take j.toNat).drop i.toNat
theorem part_app (a b : List (List Att)) (i j : Int) : part (a ++ b) i j = part a i j ++ part b (i - (a.length : Nat)) (j - (a.length : Nat)) := by
  unfold part
  rw [List.take_append, List.drop_append, List.length_take]
  congr 1
  have e1 : (j - (a.length : Nat)).toNat = j.toNat - a.length := by omega
  have e2 : (i - (a.length : Nat)).toNat = i.toNat - a.length := by omega
  rw [e1, e2]
  by_cases h : a.length ≤ j.toNat
  · rw [Nat.min_eq_right h]
  · rw [show j.toNat - a.length = 0 by omega]
    simp
theorem ptc_flat : ∀ (l : List Ck) (i j : Int), flat (ptc l i j) = part (flat l) i j
  | [], i, j => by unfold part; simp [ptc, flat]
  | x :: r, i, j => by
    show flat (pieceO x i j ++ ptc r _ _) = _
    rw [flat_app, ptc_flat r, flat_cons, part_app, List.length_replicate]
    congr 1
    unfold part pieceO
    rw [List.take_replicate, List.drop_replicate]
    split
    · rw [flat_cons, flat_nil, List.append_nil]
      show List.replicate (min j (x.n : Int) - max i 0).toNat x.d.s = _
      rw [show (min j (x.n : Int) - max i 0).toNat = min j.toNat x.n - i.toNat by omega]
    · rw [flat_nil, show min j.toNat x.n - i.toNat = 0 by omega]; rfl
theorem ptc_head {r : List Ck} (h : Pr r) {i j : Int} (hi : i ≤ 0) {y : Ck} (hy : (ptc r i j).head? = some y) : ∃ z, r.head? = some z ∧ y.d.s = z.d.s := by
  cases r with
  | nil => cases hy
  | cons z r =>
    refine ⟨z, rfl, ?_⟩
    by_cases hj : j ≤ 0
    · rw [ptc_le hj] at hy; cases hy
    · have e : ptc (z :: r) i j = pcv z i j :: ptc r (i - (z.n : Int)) (j - (z.n : Int)) := by
        show pieceO z i j ++ ptc r _ _ = _
        have := h.1
        unfold pieceO
        rw [if_pos (by omega)]; rfl
      rw [e] at hy
      simp only [List.head?_cons, Option.some.injEq] at hy
      rw [← hy]; rfl
theorem ptc_pr : ∀ {l : List Ck}, Pr l → ∀ (i j : Int), Pr (ptc l i j)
  | [], _, _, _ => trivial
  | x :: r, h, i, j => by
    have ih := ptc_pr h.2.2 (i - (x.n : Int)) (j - (x.n : Int))
    show Pr (pieceO x i j ++ ptc r _ _)
    unfold pieceO
    split
    · rename_i hc
      have hx := h.1
      refine pr_app.2 ⟨pr_one (show 0 < (min j (x.n : Int) - max i 0).toNat by omega), ih, fun u v hu hv => ?_⟩
      obtain ⟨z, hz, hd⟩ := ptc_head h.2.2 (by omega) hv
      simp only [List.getLast?_singleton, Option.some.injEq] at hu
      rw [← hu, hd]
      exact h.2.1 z hz
    · exact ih
/-- A span that is not empty. -/
structure NCk (D : Sv → Prop) (Bn : Nat) where
  c : Ck
  ne : 0 < c.n
  d : D c.d
  b : c.n ≤ Bn
def flatN {D : Sv → Prop} {Bn : Nat} (q : List (NCk D Bn)) : List Ck := q.map NCk.c
theorem flatN_app {D : Sv → Prop} {Bn : Nat} (a b : List (NCk D Bn)) : flatN (a ++ b) = flatN a ++ flatN b := by simp [flatN]
/-- What a round keeps: all below n0 but for some, and all nodes. -/
structure KpN (n0 : Nat) (X : Nat → Prop) (W W' : World) : Prop where
  os : W'.os = W.os
  tape : W'.tape = W.tape
  output : W'.output = W.output
  size : W.heap.size ≤ W'.heap.size
  keep : ∀ k o, W.heap[k]? = some o → ¬ X k → (k < n0 ∨ ∃ cs t f, o = .cells cs t f ∧ t = 102) → W'.heap[k]? = some o
section
variable {n0 : Nat} {X : Nat → Prop} {W W' W1 w w' : World}
theorem KpN.refl (n0 : Nat) (X : Nat → Prop) (W : World) : KpN n0 X W W := ⟨rfl, rfl, rfl, Nat.le_refl _, fun _ _ h _ _ => h⟩
theorem KpN.trans (h : KpN n0 X W W1) (k : KpN n0 X W1 W') : KpN n0 X W W' := ⟨k.os.trans h.os, k.tape.trans h.tape, k.output.trans h.output, Nat.le_trans h.size k.size, fun i o hi hx hc => k.keep i o (h.keep i o hi hx hc) hx hc⟩
theorem KpN.of_below (h : Below W.heap.size W W') : KpN n0 X W W' := ⟨h.os, h.tape, h.output, h.size, fun k o hk _ _ => (h.block k (lt_of_heap hk)).trans hk⟩
theorem KpN.cb {b : Nat} {t : TypeId} {cs : Array Value} (h : KpN n0 X W W') (hc : Cb b t cs W) (ht : t = 102) (hx : ¬ X b) : Cb b t cs W' := h.keep b _ hc hx (.inr ⟨_, _, _, rfl, ht⟩)
theorem KpN.trm {D : Sv → Prop} {S : Nat → Prop} {tb an cn : Nat} {U V : Nat → Prop} {root : Int} {A : ArS Nd} {C : ArS Ck} (h : KpN n0 X W W') (ht : TrM D S tb an cn U V root A C W) (hS : ∀ k, S k → k < n0 ∧ ¬ X k) : TrM D S tb an cn U V root A C W' :=
  ht.kept h.size (fun k hk hs => by
    have e := Array.getElem?_eq_getElem hk
    exact (h.keep k _ e (hS k hs).2 (.inl (hS k hs).1)).trans e.symm)
end
section
variable {D : Sv → Prop} {Bn : Nat} {S : Nat → Prop} {tb an cn : Nat} {U V : Nat → Prop} {root : Int} {A : ArS Nd} {C : ArS Ck} {w w' : World}
theorem between_part (h : TrM D S tb an cn U V root A C w) (M : Nd) (x : Ck) (hx : ∃ k : Nat, M.thing = (k : Nat) ∧ C.at_ k = some x) (hl : M.len = (x.n : Nat)) (hb : x.n ≤ 10000000000) (i j : Int) (hi : i < (x.n : Nat)) (hj : 0 < j) (hij : i ≤ j) :
    Calls Try.prog 60 #[.pointer (some ⟨tb, 0, none⟩), ndv M, .int .i64 i, .int .i64 j] w fun e w' => e = .returned (cvs (pcv x i j)) ∧ Below w.heap.size w w' := by
  by_cases h1 : i ≤ 0
  · by_cases h2 : j < (x.n : Nat)
    · obtain ⟨k, rfl⟩ : ∃ k : Nat, j = (k : Nat) := ⟨j.toNat, by omega⟩
      rw [show pcv x i (k : Nat) = cutA x k by unfold pcv cutA; congr 1; omega]
      exact between_end h M x hx hl hb i k h1 (by omega)
    · rw [show pcv x i j = x by unfold pcv; rw [show (min j (x.n : Int) - max i 0).toNat = x.n by omega]]
      exact between_all h M x hx hl hb i j h1 (by omega)
  · obtain ⟨p, rfl⟩ : ∃ k : Nat, i = (k : Nat) := ⟨i.toNat, by omega⟩
    by_cases h2 : j < (x.n : Nat)
    · obtain ⟨k, rfl⟩ : ∃ k : Nat, j = (k : Nat) := ⟨j.toNat, by omega⟩
      rw [show pcv x (p : Nat) (k : Nat) = cutB (cutA x k) p by show (⟨(min ((k : Nat) : Int) (x.n : Int) - max ((p : Nat) : Int) 0).toNat, x.d⟩ : Ck) = ⟨k - p, x.d⟩; congr 1; omega]
      exact between_both h M x hx hl hb p k (by omega) (by omega) (by omega)
    · rw [show pcv x (p : Nat) j = cutB x p by unfold pcv cutB; congr 1; omega]
      exact between_start h M x hx hl hb p j (by omega) (by omega) (by omega)
end
section
variable {n0 N : Nat} {X : Nat → Prop} {D : Sv → Prop} {Bn : Nat} {S : Nat → Prop} {tb an cn ln : Nat} {U V : Nat → Prop} {root : Int} {A : ArS Nd} {C : ArS Ck} {J Jx : List (NCk D Bn) → World → Prop}
@[reducible] def TellQ (D : Sv → Prop) (Bn : Nat) (n0 N : Nat) (X S : Nat → Prop) (tb an cn ln : Nat) (U V : Nat → Prop) (root : Int) (A : ArS Nd) (C : ArS Ck) (J Jx : List (NCk D Bn) → World → Prop) (T : TC) : Prop :=
  ∀ (i j : Int) (pre : List (NCk D Bn)) (W : World), TrM D S tb an cn U V root A C W → n0 ≤ W.heap.size → J pre W → pre.length + (T.el Wc).length ≤ N → ((Wc.ln (T.el Wc) : Nat) : Int) - 5000000000 ≤ i → i < j → j ≤ 5000000000 →
    Calls Try.prog 42 #[.pointer (some ⟨tb, 0, none⟩), .int .i64 T.id, .int .i64 i, .int .i64 j, .func (.yield ln) #[] #[]] W fun e W' =>
      (e = .returned (.bool true) ∧ ∃ q : List (NCk D Bn), flatN q = ptc (T.el Wc) i j ∧ q.length ≤ (T.el Wc).length ∧ J (pre ++ q) W' ∧ KpN n0 X W W') ∨ (e = .returned (.bool false) ∧ ∃ q, Jx (pre ++ q) W')
/-- A tree of which nothing is to be told. -/
theorem tell_not (hJB : ∀ pre W W', J pre W → Below W.heap.size W W' → J pre W') (T : TC) (hT : T.In Wc A C) (i j : Int) (hij : j ≤ 0 ∨ ((Wc.ln (T.el Wc) : Nat) : Int) ≤ i) (pre : List (NCk D Bn)) (W : World) (h : TrM D S tb an cn U V root A C W) (h0 : J pre W) :
    Calls Try.prog 42 #[.pointer (some ⟨tb, 0, none⟩), .int .i64 T.id, .int .i64 i, .int .i64 j, .func (.yield ln) #[] #[]] W fun e W' => e = .returned (.bool true) ∧ J pre W' ∧ KpN n0 X W W' := by
  have HA := Lib.hid (at_any T h hT)
  have hlen := T.nd_len (W := Wc)
  obtain ⟨M, hM⟩ : ∃ M, T.nd Wc = M := ⟨_, rfl⟩
  obtain ⟨ti, hti⟩ : ∃ ti, T.id = ti := ⟨_, rfl⟩
  rw [hM] at HA hlen
  rw [hti] at HA ⊢
  have HJ := Lib.hid (fun W' (hb : Below W.heap.size W W') => And.intro (hJB pre W W' h0 hb) (KpN.of_below (n0 := n0) (X := X) hb))
  obtain ⟨len, hl⟩ : ∃ k, M.len = k := ⟨_, rfl⟩
  rw [hl] at hlen
  obtain ⟨d, hd⟩ : ∃ d, decide (j ≤ 0) = d := ⟨_, rfl⟩
  have hd2 : d = false → decide (len ≤ i) = true := fun e => by
    subst e
    rw [decide_eq_false_iff_not] at hd
    rw [decide_eq_true_iff]
    omega
  clear h hT hti hM hJB h0 hij hlen
  go_enter Try.func42, Try.ntmps42
  go_upto_region 2 with (first
    | (go_at_call 51; refine HA.out.mono ?_; clear HA; rintro e w1 ⟨rfl, b1⟩; have B1 := Lib.hid (b1.alloc b1.size (.cells ndz 102)); have V1 := Lib.hid (cb_new w1 102 ndz); have Z1 := Lib.hid b1.size; clear b1)
    | (refine wpList_store_row rfl 102 (.tmp 11) (.tmp 15) rfl w1.heap.size (ndc M) rfl rfl _ _ V1.out (ninfo M) rfl (none_n M) ?_))
  refine with_worldT (fun w2 => Cb w1.heap.size 102 (ndc M) w2 ∧ Below W.heap.size W w2) ⟨V1.out.set _, below_row B1.out Z1.out⟩ fun w2 hw2 => ?_
  have c2 : w2.cell? ⟨w1.heap.size, 2, none⟩ = some (.int .i64 len) := by rw [← hl]; exact hw2.1.cell 2
  have HJ2 := Lib.hid (HJ.out _ hw2.2)
  clear hw2 V1 B1 HJ
  cases d
  · have e2 := hd2 rfl
    clear hd2
    go_wp2
    go_ret
    exact ⟨rfl, HJ2.out⟩
  · clear hd2
    go_wp2
    go_ret
    exact ⟨rfl, HJ2.out⟩
set_option maxHeartbeats 2000000 in
theorem tell_fork (hX : ∀ k, X k → k < n0) (hS : ∀ k, S k → k < n0 ∧ ¬ X k) (hJB : ∀ pre W W', J pre W → Below W.heap.size W W' → J pre W') (n : Nat) (l r : TC) (hT : (Tr.fork n l r : TC).In Wc A C)
    (ihl : TellQ D Bn n0 N X S tb an cn ln U V root A C J Jx l) (ihr : TellQ D Bn n0 N X S tb an cn ln U V root A C J Jx r) : TellQ D Bn n0 N X S tb an cn ln U V root A C J Jx (.fork n l r) := by
  intro i j pre W h hn h0 hN hi hij hj
  by_cases hz : j ≤ 0 ∨ ((Wc.ln ((Tr.fork n l r : TC).el Wc) : Nat) : Int) ≤ i
  · refine (tell_not (n0 := n0) (X := X) hJB _ hT i j hz pre W h h0).mono ?_
    rintro e W' ⟨rfl, h1, h2⟩
    refine .inl ⟨rfl, [], ?_, Nat.zero_le _, by simpa using h1, h2⟩
    rcases hz with hz | hz
    · rw [ptc_le hz]; rfl
    · rw [ptc_ge hz]; rfl
  have HEL : ((Tr.fork n l r : TC).el Wc) = l.el Wc ++ r.el Wc := rfl
  have hlen := (Tr.fork n l r : TC).nd_len (W := Wc)
  have hhh := (Tr.fork n l r : TC).nd_height (W := Wc)
  have hht := hT.fork_ht
  have HA := Lib.hid (at_any _ h hT)
  have HL := Lib.hid (fun W' (h' : TrM D S tb an cn U V root A C W') => at_any l h' hT.2.2.2.1)
  have hll := l.nd_len (W := Wc)
  obtain ⟨L, hL⟩ : ∃ L, l.nd Wc = L := ⟨_, rfl⟩
  rw [hL] at HL hll
  have hM1 : ((Tr.fork n l r : TC).nd Wc).left = l.id := rfl
  have hM2 : ((Tr.fork n l r : TC).nd Wc).right = r.id := rfl
  obtain ⟨M, hM⟩ : ∃ M, (Tr.fork n l r : TC).nd Wc = M := ⟨_, rfl⟩
  obtain ⟨ti, hti⟩ : ∃ ti, (Tr.fork n l r : TC).id = ti := ⟨_, rfl⟩
  obtain ⟨li, hli⟩ : ∃ ti, l.id = ti := ⟨_, rfl⟩
  obtain ⟨ri, hri⟩ : ∃ ti, r.id = ti := ⟨_, rfl⟩
  rw [hM] at HA hlen hhh hM1 hM2
  rw [hti] at HA ⊢
  rw [hli] at HL hM1
  rw [hri] at hM2
  rw [HEL, List.length_append] at hN
  rw [HEL, Wc.lnA] at hi hz hlen
  rw [HEL]
  obtain ⟨mid, hmid⟩ : ∃ k : Nat, Wc.ln (l.el Wc) = k := ⟨_, rfl⟩
  have IHL := Lib.hid (fun pre W => ihl i j pre W)
  have IHR := Lib.hid (fun pre W => ihr (i - (mid : Nat)) (j - (mid : Nat)) pre W)
  have HPA := Lib.hid (show ptc (l.el Wc ++ r.el Wc) i j = ptc (l.el Wc) i j ++ ptc (r.el Wc) (i - (Wc.ln (l.el Wc) : Nat)) (j - (Wc.ln (l.el Wc) : Nat)) from ptc_app _ _ i j)
  rw [hli, hmid] at IHL
  rw [hri] at IHR
  rw [hmid] at hi hz hlen hll HPA
  have HLL := Lib.hid (And.intro hmid hN)
  obtain ⟨rl, hrl⟩ : ∃ k : Nat, Wc.ln (r.el Wc) = k := ⟨_, rfl⟩
  rw [hrl] at hi hz hlen IHR
  have HRL := Lib.hid hrl
  obtain ⟨len, hl⟩ : ∃ k, M.len = k := ⟨_, rfl⟩
  obtain ⟨hgt, hg⟩ : ∃ k, M.height = k := ⟨_, rfl⟩
  rw [hl] at hlen
  rw [hg] at hhh
  have d1 : decide (j ≤ 0) = false := decide_eq_false (by omega)
  have d2 : decide (len ≤ i) = false := decide_eq_false (by omega)
  have d3 : decide (1 < hgt) = true := decide_eq_true (by omega)
  have u1 : -5000000000 ≤ i - (mid : Nat) := by omega
  have u2 : i - (mid : Nat) ≤ 5000000000 := by omega
  have u3 : -5000000000 ≤ j - (mid : Nat) := by omega
  have u4 : j - (mid : Nat) ≤ 5000000000 := by omega
  have HB := Lib.hid (And.intro hi (And.intro hij hj))
  have HM := Lib.hid h
  have HJ0 := Lib.hid h0
  have HN0 := Lib.hid hn
  have hfs := field_sz
  have hfl := field_len
  have HIF := Lib.hid (isfork_any M)
  rw [hg, d3] at HIF
  clear h h0 hN hn hi hij hj hz hlen hhh hht hT ihl ihr hti hli hri hM hL HEL hmid hrl
  go_enter Try.func42, Try.ntmps42
  go_upto_region 2 with (first
    | (go_at_call 51; refine HA.out.mono ?_; clear HA; rintro e w1 ⟨rfl, b1⟩; have B1 := Lib.hid (b1.alloc b1.size (.cells ndz 102)); have V1 := Lib.hid (cb_new w1 102 ndz); have Z1 := Lib.hid b1.size; clear b1)
    | (refine wpList_store_row rfl 102 (.tmp 11) (.tmp 15) rfl w1.heap.size (ndc M) rfl rfl _ _ V1.out (ninfo M) rfl (none_n M) ?_))
  refine with_worldT (fun w2 => Cb w1.heap.size 102 (ndc M) w2 ∧ Below W.heap.size W w2) ⟨V1.out.set _, below_row B1.out Z1.out⟩ fun w2 hw2 => ?_
  obtain ⟨b, hb⟩ : ∃ b, w1.heap.size = b := ⟨_, rfl⟩
  rw [hb] at hw2 Z1 ⊢
  have c2 : w2.cell? ⟨b, 2, none⟩ = some (.int .i64 len) := by rw [← hl]; exact hw2.1.cell 2
  have C2 := Lib.hid hw2.1
  have B2 := Lib.hid hw2.2
  have HXB : Hid (¬ X b) := Lib.hid (fun hx => by have := hX b hx; have := Z1.out; have := HN0.out; omega)
  clear hw2 V1 B1 hb
  go_wp2_with (first
    | (refine wpList_load_roww 102 (.tmp 11) rfl b rfl (by rfl) _ _ _ _ C2.out Try.underlying102 rfl (ninfo M) ?_)
    | (go_at_call 57; (with_reducible refine (HIF.out _).mono ?_); rintro e w3 ⟨rfl, b3⟩; have C3 := Lib.hid (C2.out.below b3); have B3 := Lib.hid (below_add B2.out b3 B2.out.size); have c4 : w3.cell? ⟨b, 4, none⟩ = some (.int .i64 li) := (by rw [← hM1]; exact (C2.out.below b3).cell 4); clear b3)
    | (go_at_call 51; (refine (HL.out _ (HM.out.below B3.out)).mono ?_); rintro e w4 ⟨rfl, b4⟩; have C4 := Lib.hid (C3.out.below b4); have B4 := Lib.hid (below_add B3.out b4 B3.out.size); have c5 : w4.cell? ⟨b, 4, none⟩ = some (.int .i64 li) := (by rw [← hM1]; exact (C3.out.below b4).cell 4); clear b4)
    | (go_at_call 42; (refine (IHL.out pre _ (HM.out.below B4.out) (by have := HN0.out; have := B4.out.size; omega) (hJB _ _ _ HJ0.out B4.out) (by have := HLL.out.2; omega) (by have := HB.out; omega) HB.out.2.1 HB.out.2.2).mono ?_); clear IHL; rintro e w5 (⟨rfl, q1, e1, n1, j1, k1⟩ | ⟨rfl, q1, j1⟩); have c6 : w5.cell? ⟨b, 5, none⟩ = some (.int .i64 ri) := (by rw [← hM2]; exact (k1.cb C4.out (by decide) HXB.out).cell 5); have E1 := Lib.hid (And.intro e1 n1); clear e1 n1)
    | (go_at_call 42; (refine (IHR.out (pre ++ q1) _ (k1.trm (HM.out.below B4.out) hS) (by have := HN0.out; have := B4.out.size; have := k1.size; omega) j1 (by rw [List.length_append]; have a1 := E1.out.2; have a2 := HLL.out.1; have a3 := HLL.out.2; omega) (by have := HB.out; omega) (by have := HB.out; omega) (by have := HB.out; omega)).mono ?_); clear IHR c6; rintro e w6 (⟨rfl, q2, e2, n2, j2, k2⟩ | ⟨rfl, q2, j2⟩)))
  · go_ret
    exact .inl ⟨rfl, q1 ++ q2, by rw [flatN_app, E1.out.1, e2, HPA.out], by have := E1.out.2; rw [List.length_append, List.length_append]; omega, by rw [← List.append_assoc]; exact j2, ((KpN.of_below B4.out).trans k1).trans k2⟩
  · go_ret
    exact .inr ⟨rfl, q1 ++ q2, by rw [← List.append_assoc]; exact j2⟩
  · go_ret
    exact .inr ⟨rfl, q1, j1⟩
set_option maxHeartbeats 2000000 in
theorem tell_leaf (m0 : Nat) (hX : ∀ k, X k → k < n0) (hS : ∀ k, S k → k < n0 ∧ ¬ X k) (hJB : ∀ pre W W', J pre W → Below W.heap.size W W' → J pre W')
    (hY : ∀ (pre : List (NCk D Bn)) (x : NCk D Bn) (W1 : World), J pre W1 → pre.length < N → YieldAt Fence.wide m0 Try.prog ln #[cvs x.c] W1 fun e W' =>
      (e = .returned (.bool true) ∧ J (pre ++ [x]) W' ∧ KpN n0 X W1 W') ∨ (e = .returned (.bool false) ∧ Jx (pre ++ [x]) W'))
    (n t : Nat) (x : Ck) (hxB : x.n ≤ Bn) (hT : (Tr.leaf n t x : TC).In Wc A C) : TellQ D Bn n0 N X S tb an cn ln U V root A C J Jx (.leaf n t x) := by
  intro i j pre W h hn h0 hN hi hij hj
  by_cases hz : j ≤ 0 ∨ ((Wc.ln ((Tr.leaf n t x : TC).el Wc) : Nat) : Int) ≤ i
  · refine (tell_not (n0 := n0) (X := X) hJB _ hT i j hz pre W h h0).mono ?_
    rintro e W' ⟨rfl, h1, h2⟩
    refine .inl ⟨rfl, [], ?_, Nat.zero_le _, by simpa using h1, h2⟩
    rcases hz with hz | hz
    · rw [ptc_le hz]; rfl
    · rw [ptc_ge hz]; rfl
  have HEL : ((Tr.leaf n t x : TC).el Wc) = x.l := rfl
  have hpos : 0 < x.l.length := hT.2.2
  have hdx : D x.d := h.cD t x hT.2.1
  obtain ⟨hxl, hxn⟩ := l_one hpos
  have hln : Wc.ln x.l = x.n := lnS_l x
  have hlen : ((Tr.leaf n t x : TC).nd Wc).len = (x.n : Nat) := by show ((Wc.ln x.l : Nat) : Int) = _; rw [hln]
  have hhh : ((Tr.leaf n t x : TC).nd Wc).height = 1 := rfl
  have hth : ∃ k : Nat, ((Tr.leaf n t x : TC).nd Wc).thing = (k : Nat) ∧ C.at_ k = some x := ⟨t, rfl, hT.2.1⟩
  have HA := Lib.hid (at_any _ h hT)
  obtain ⟨M, hM⟩ : ∃ M, (Tr.leaf n t x : TC).nd Wc = M := ⟨_, rfl⟩
  obtain ⟨ti, hti⟩ : ∃ ti, (Tr.leaf n t x : TC).id = ti := ⟨_, rfl⟩
  rw [hM] at HA hlen hhh hth
  rw [hti] at HA ⊢
  rw [HEL] at hN hi hz
  rw [HEL]
  rw [hln] at hi hz
  rw [hxl] at hN ⊢
  have hN : pre.length + 1 ≤ N := hN
  have HBT := Lib.hid (fun W' (hb : Below W.heap.size W W') => between_part (h.below hb) M x hth hlen (by omega) i j (by omega) (by omega) (by omega))
  obtain ⟨y, hyc, hyl⟩ : ∃ y : NCk D Bn, y.c = pcv x i j ∧ [y.c] = ptc [x] i j := ⟨⟨pcv x i j, (show 0 < (min j (x.n : Int) - max i 0).toNat by omega), show D x.d from hdx, show (min j (x.n : Int) - max i 0).toNat ≤ Bn by omega⟩, rfl, by
    show _ = pieceO x i j ++ ptc [] _ _
    unfold pieceO
    rw [if_pos (by omega)]; rfl⟩
  have HYP := Lib.hid (fun W' (hb : Below W.heap.size W W') => YieldAt.anyDepth rfl 8 (hY pre y W' (hJB _ _ _ h0 hb) (by omega)))
  rw [hyc] at HYP
  have HPC := Lib.hid hyl
  have hlx : True := trivial
  obtain ⟨len, hl⟩ : ∃ k, M.len = k := ⟨_, rfl⟩
  obtain ⟨hgt, hg⟩ : ∃ k, M.height = k := ⟨_, rfl⟩
  rw [hl] at hlen
  rw [hg] at hhh
  have d1 : decide (j ≤ 0) = false := decide_eq_false (by omega)
  have d2 : decide (len ≤ i) = false := decide_eq_false (by omega)
  have d3 : decide (1 < hgt) = false := decide_eq_false (by omega)
  have HIF := Lib.hid (isfork_any M)
  rw [hg, d3] at HIF
  have HX := Lib.hid hpos
  clear h h0 hN hn hi hij hj hz hlen hhh hth hT hti hM HEL hJB hY hX hS hpos hyl hyc hln hxl hxn hdx hxB
  go_enter Try.func42, Try.ntmps42
  go_upto_region 2 with (first
    | (go_at_call 51; refine HA.out.mono ?_; clear HA; rintro e w1 ⟨rfl, b1⟩; have B1 := Lib.hid (b1.alloc b1.size (.cells ndz 102)); have V1 := Lib.hid (cb_new w1 102 ndz); have Z1 := Lib.hid b1.size; clear b1)
    | (refine wpList_store_row rfl 102 (.tmp 11) (.tmp 15) rfl w1.heap.size (ndc M) rfl rfl _ _ V1.out (ninfo M) rfl (none_n M) ?_))
  refine with_worldT (fun w2 => Cb w1.heap.size 102 (ndc M) w2 ∧ Below W.heap.size W w2) ⟨V1.out.set _, below_row B1.out Z1.out⟩ fun w2 hw2 => ?_
  obtain ⟨b, hb⟩ : ∃ b, w1.heap.size = b := ⟨_, rfl⟩
  rw [hb] at hw2 Z1 ⊢
  have c2 : w2.cell? ⟨b, 2, none⟩ = some (.int .i64 len) := by rw [← hl]; exact hw2.1.cell 2
  have C2 := Lib.hid hw2.1
  have B2 := Lib.hid hw2.2
  clear hw2 V1 B1 hb
  go_upto_region 5 with (first
    | (refine wpList_load_roww 102 (.tmp 11) rfl b rfl (by rfl) _ _ _ _ C2.out Try.underlying102 rfl (ninfo M) ?_)
    | (go_at_call 57; (with_reducible refine (HIF.out _).mono ?_); rintro e w3 ⟨rfl, b3⟩; have C3 := Lib.hid (C2.out.below b3); have B3 := Lib.hid (below_add B2.out b3 B2.out.size); clear b3))
  refine (wpIn_wide (n := 9)).1 ?_
  refine wpIn_region_lit ?_
  have HBT3 := Lib.hid (HBT.out _ B3.out)
  gi_wp2_with (first
    | (refine wpListIn_load_roww 102 (.tmp 11) rfl rfl b rfl _ _ _ _ C3.out Try.underlying102 rfl (ninfo M) ?_)
    | (refine ⟨trivial, ?_⟩; gi_at_call 60; (with_reducible refine (callsIn_wide.2 HBT3.out).mono ?_); rintro e w4 ⟨rfl, b4⟩; obtain ⟨fn, tmps, assign, body, hy, hR⟩ := HYP.out w4 (below_add B3.out b4 B3.out.size); have B4 := Lib.hid (below_add B3.out b4 B3.out.size); clear b4))
  refine hR.mono ?_
  rintro e W' (⟨rfl, hJ', hk'⟩ | ⟨rfl, hJx'⟩)
  · gi_wp2
    go_wp2
    go_ret
    exact .inl ⟨rfl, [y], by rw [← HPC.out]; simp [flatN], Nat.le_refl _, hJ', (KpN.of_below B4.out).trans hk'⟩
  · gi_wp2
    go_wp2
    go_ret
    exact .inr ⟨rfl, _, hJx'⟩
end
end Go.Proofs.Yteodfbkfpboehaa
