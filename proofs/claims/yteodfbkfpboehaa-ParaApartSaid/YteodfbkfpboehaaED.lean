
import Derived.Test.YteodfbkfpboehaaEC
import Derived.StillTailTactics
/- UO: a region that draws its order within a round; Over -/
namespace Go
section
variable {l n : Nat} {P : Program} {ops : Array Oper} {Q : Exit → Act → World → Prop}
theorem opAtIn_of_plain (hq : ∀ a w, ¬ Q .outgrown a w) (hs : ∀ (i : Nat) (o : Oper), ops[i]? = some o → ∀ c, o.op ≠ .defer c) {i : Nat} {K K' : Act → World → Prop} {a : Act} {w : World}
    (hK : ∀ a w, K a w → K' a w) (h : wpOp P ops Q i K a w) : wpOpIn (Fence.wide.inRound l) n P ops Q i K' a w := by
  unfold wpOp at h
  unfold wpOpIn
  cases ho : ops[i]? with
  | none => simp only [ho] at h ⊢; exact hK _ _ h
  | some o =>
    simp only [ho] at h ⊢
    split
    · rename_i hw
      rw [if_pos hw] at h
      rcases h with h | ⟨-, a', w', h⟩
      · exact Oper.wpIn_mono hK (opIn_of_plain (hs i o ho) h)
      · exact (hq a' w' h).elim
    · rename_i hw
      rw [if_neg hw] at h
      exact ⟨fun _ _ => trivial, hK _ _ h⟩
theorem anyIn_of_plain {md : Region.Mode} {S : World → Prop} (hq : ∀ a w, ¬ Q .outgrown a w) (hs : ∀ (i : Nat) (o : Oper), ops[i]? = some o → ∀ c, o.op ≠ .defer c) : ∀ (fuel : Nat) (listed : Array Bool) (a : Act) (w : World),
    wpAnyH P md ops Q S fuel listed a w → wpAnyIn (Fence.wide.inRound l) n P md ops Q fuel listed a w
  | 0, _, _, _, h => h
  | fuel + 1, _, _, _, h => ⟨h.1, fun i hi => opAtIn_of_plain hq hs (fun a' w' h' => anyIn_of_plain hq hs fuel _ a' w' h'.2) (h.2 i hi)⟩
theorem noDefer_spec {l : List Oper} (h : noDefer l = true) : ∀ (i : Nat) (o : Oper), l.toArray[i]? = some o → ∀ c, o.op ≠ .defer c := by
  intro i o ho c hc
  have hm : o ∈ l := by
    have := List.mem_of_getElem? (l := l) (i := i) (by simpa using ho)
    exact this
  have := List.all_eq_true.1 h o hm
  rw [hc] at this
  cases this
theorem drawnIn_of_plain {id : Nat} {L : List Oper} {a : Act} {w : World} (S : World → Prop) (hq : ∀ a w, ¬ Q .outgrown a w) (hd : noDefer L = true) (hm : P.follows .mixedOrders = true)
    (h : wpAnyH P .any L.toArray Q S L.toArray.size (Array.replicate L.toArray.size false) a w.drew) : (Code.region id L.toArray true).wpIn (Fence.wide.inRound l) n P Q a w :=
  wpIn_region_any hm (anyIn_of_plain hq (noDefer_spec hd) _ _ _ _ h)
end
end Go
namespace Go.Proofs.Yteodfbkfpboehaa
open Go.RowKit Go.Shelf
set_option linter.unusedVariables false
set_option maxRecDepth 100000
attribute [local go_sem] Oper.semAt_some
section
variable {n0 N : Nat} {X : Nat → Prop} {D : Sv → Prop} {Bn : Nat} {S : Nat → Prop} {tb an cn ln : Nat} {U V : Nat → Prop} {root : Int} {A : ArS Nd} {C : ArS Ck} {J Jx : List (NCk D Bn) → World → Prop}
theorem tell_all (m0 : Nat) (hX : ∀ k, X k → k < n0) (hS : ∀ k, S k → k < n0 ∧ ¬ X k) (hJB : ∀ pre W W', J pre W → Below W.heap.size W W' → J pre W')
    (hY : ∀ (pre : List (NCk D Bn)) (x : NCk D Bn) (W1 : World), J pre W1 → pre.length < N → YieldAt Fence.wide m0 Try.prog ln #[cvs x.c] W1 fun e W' =>
      (e = .returned (.bool true) ∧ J (pre ++ [x]) W' ∧ KpN n0 X W1 W') ∨ (e = .returned (.bool false) ∧ Jx (pre ++ [x]) W')) :
    ∀ (T : TC), T ≠ .nil → T.In Wc A C → Wc.ln (T.el Wc) ≤ Bn → TellQ D Bn n0 N X S tb an cn ln U V root A C J Jx T
  | .nil, h, _, _ => absurd rfl h
  | .leaf n t x, _, hT, hb => tell_leaf m0 hX hS hJB hY n t x (by rw [← lnS_l x]; exact hb) hT
  | .fork n l r, _, hT, hb => by
    have hb2 : Wc.ln (l.el Wc) + Wc.ln (r.el Wc) ≤ Bn := by rw [← Wc.lnA]; exact hb
    exact tell_fork hX hS hJB n l r hT (tell_all m0 hX hS hJB hY l hT.2.1 hT.2.2.2.1 (by omega)) (tell_all m0 hX hS hJB hY r hT.2.2.1 hT.2.2.2.2 (by omega))
end
theorem ptc_same : ∀ (l : List Ck) (i : Int), ptc l i i = []
  | [], _ => rfl
  | x :: r, i => by
    show pieceO x i i ++ ptc r _ _ = []
    rw [ptc_same r]
    unfold pieceO
    rw [if_neg (by omega)]; rfl
/-- What Over's closure reads. -/
structure OvC (D : Sv → Prop) (S : Nat → Prop) (tb : Nat) (R : TC) (Q : Nat) (b1 b2 b3 : Nat) (i j : Nat) (w0 w : World) : Prop where
  c1 : w.cell? ⟨b1, 0, none⟩ = some (.pointer (some ⟨tb, 0, none⟩))
  c2 : w.cell? ⟨b2, 0, none⟩ = some (.int .i64 (i : Nat))
  c3 : w.cell? ⟨b3, 0, none⟩ = some (.int .i64 (j : Nat))
  t : Sq D Q S tb R.id [R] w
  bel : Below w0.heap.size w0 w
theorem OvC.below {D : Sv → Prop} {S : Nat → Prop} {tb : Nat} {R : TC} {Q : Nat} {b1 b2 b3 : Nat} {i j : Nat} {w0 w w' : World} (h : OvC D S tb R Q b1 b2 b3 i j w0 w) (hb : Below w.heap.size w w') : OvC D S tb R Q b1 b2 b3 i j w0 w' :=
  ⟨(hb.cell (World.block_lt_of_cell? _ _ h.c1)).trans h.c1, (hb.cell (World.block_lt_of_cell? _ _ h.c2)).trans h.c2, (hb.cell (World.block_lt_of_cell? _ _ h.c3)).trans h.c3, h.t.below hb, below_add h.bel hb h.bel.size⟩
set_option maxHeartbeats 2000000 in
theorem over1_any {n0 N Q : Nat} {X : Nat → Prop} {D : Sv → Prop} {Bn : Nat} {S : Nat → Prop} {tb ln : Nat} {J Jx : List (NCk D Bn) → World → Prop} (m0 : Nat) (hX : ∀ k, X k → k < n0) (hS : ∀ k, S k → k < n0 ∧ ¬ X k) (hJB : ∀ pre W W', J pre W → Below W.heap.size W W' → J pre W')
    (hY : ∀ (pre : List (NCk D Bn)) (x : NCk D Bn) (W1 : World), J pre W1 → pre.length < N → YieldAt Fence.wide m0 Try.prog ln #[cvs x.c] W1 fun e W' =>
      (e = .returned (.bool true) ∧ J (pre ++ [x]) W' ∧ KpN n0 X W1 W') ∨ (e = .returned (.bool false) ∧ Jx (pre ++ [x]) W'))
    (R : TC) (b1 b2 b3 : Nat) (i j : Nat) (hij : i ≤ j) (hj : j ≤ Wc.ln (R.el Wc)) (hQ : Wc.ln (R.el Wc) ≤ 4000000000) (hBn : Wc.ln (R.el Wc) ≤ Bn) (hN : (R.el Wc).length ≤ N) (W : World) (h : OvC D S tb R Q b1 b2 b3 i j W W) (hn : n0 ≤ W.heap.size) (h0 : J [] W) :
    Calls Try.prog 40 #[.func (.yield ln) #[] #[], .pointer (some ⟨b1, 0, none⟩), .pointer (some ⟨b2, 0, none⟩), .pointer (some ⟨b3, 0, none⟩)] W fun e W' => (∃ v, e = .returned v) ∧
      ((∃ q, flatN q = ptc (R.el Wc) (i : Nat) (j : Nat) ∧ J q W') ∨ (∃ q, Jx q W')) := by
  have HC := Lib.hid h
  have HP1 := Lib.hid (fun w' (hc : OvC D S tb R Q b1 b2 b3 i j W w') => (place_any R i (by omega) hc.t).mono fun e w1 (hh : _ ∧ _) => (⟨hh.1, hc.below hh.2⟩ : _ ∧ OvC D S tb R Q b1 b2 b3 i j W w1))
  have HP2 := Lib.hid (fun w' (hc : OvC D S tb R Q b1 b2 b3 i j W w') => (place_any R j hj hc.t).mono fun e w1 (hh : _ ∧ _) => (⟨hh.1, hc.below hh.2⟩ : _ ∧ OvC D S tb R Q b1 b2 b3 i j W w1))
  have HTELL : Hid (i < j → ∀ w', OvC D S tb R Q b1 b2 b3 i j W w' → Calls Try.prog 42 #[.pointer (some ⟨tb, 0, none⟩), .int .i64 R.id, .int .i64 (i : Nat), .int .i64 (j : Nat), .func (.yield ln) #[] #[]] w' fun e w1 =>
      ∃ b, e = .returned (.bool b) ∧ ((∃ q, flatN q = ptc (R.el Wc) (i : Nat) (j : Nat) ∧ J q w1) ∨ (∃ q, Jx q w1))) := Lib.hid (fun hlt w' hc => by
    obtain ⟨⟨an, cn, U, V, A, C, g1, g2⟩, g3⟩ := hc.t
    have hne : R ≠ .nil := fun e => by
      rw [e] at hj
      have : Wc.ln ((Tr.nil : TC).el Wc) = 0 := rfl
      omega
    refine (tell_all m0 hX hS hJB hY R hne (g2.inn R List.mem_cons_self) hBn (i : Nat) (j : Nat) [] w' g1 (Nat.le_trans hn hc.bel.size) (hJB _ _ _ h0 hc.bel) (by simp; omega) (by omega) (by omega) (by omega)).mono ?_
    rintro e w1 (⟨rfl, q, e1, n1, j1, k1⟩ | ⟨rfl, q, j1⟩)
    · exact ⟨true, rfl, .inl ⟨q, e1, j1⟩⟩
    · exact ⟨false, rfl, .inr ⟨_, j1⟩⟩)
  have HNOT : Hid (¬ i < j → ∀ w', OvC D S tb R Q b1 b2 b3 i j W w' → ∃ q, flatN q = ptc (R.el Wc) (i : Nat) (j : Nat) ∧ J q w') := Lib.hid (fun hlt w' hc => ⟨[], by
    obtain rfl : i = j := by omega
    rw [ptc_same]; rfl, hJB _ _ _ h0 hc.bel⟩)
  clear h hX hS hJB hY hN h0 hn hBn
  go_enter Try.func40, Try.ntmps40
  go_wp2_with fail
  refine region_classw (C := OvC D S tb R Q b1 b2 b3 i j W) (by kernel_rfl) (by kernel_rfl) (HC.out.below (Below.refl _ _).drew) ?_
  refine w_val (v := .pointer (some ⟨tb, 0, none⟩)) (by rfl) (fun w9 hS => ?_) ?_
  · have q := hS.c1
    go_simp
  simp only [Act.put, List.setIfInBounds_toArray, List.set_cons_zero, List.set_cons_succ]
  refine w_val (v := .int .i64 (i : Nat)) (by rfl) (fun w9 hS => ?_) ?_
  · have q := hS.c2
    go_simp
  simp only [Act.put, List.setIfInBounds_toArray, List.set_cons_zero, List.set_cons_succ]
  refine w_call (by rfl) (fun w9 hS => ?_) HP1.out ?_
  · go_simp
  simp only [Act.put, List.setIfInBounds_toArray, List.set_cons_zero, List.set_cons_succ]
  refine w_val (v := .pointer (some ⟨tb, 0, none⟩)) (by rfl) (fun w9 hS => ?_) ?_
  · have q := hS.c1
    go_simp
  simp only [Act.put, List.setIfInBounds_toArray, List.set_cons_zero, List.set_cons_succ]
  refine w_val (v := .int .i64 (j : Nat)) (by rfl) (fun w9 hS => ?_) ?_
  · have q := hS.c3
    go_simp
  simp only [Act.put, List.setIfInBounds_toArray, List.set_cons_zero, List.set_cons_succ]
  refine w_call (by rfl) (fun w9 hS => ?_) HP2.out ?_
  · go_simp
  simp only [Act.put, List.setIfInBounds_toArray, List.set_cons_zero, List.set_cons_succ]
  refine w_val (v := .int .i64 (i : Nat)) (by rfl) (fun w9 hS => ?_) ?_
  · go_simp
  simp only [Act.put, List.setIfInBounds_toArray, List.set_cons_zero, List.set_cons_succ]
  refine w_val (v := .int .i64 (j : Nat)) (by rfl) (fun w9 hS => ?_) ?_
  · go_simp
  simp only [Act.put, List.setIfInBounds_toArray, List.set_cons_zero, List.set_cons_succ]
  refine w_end ?_
  intro w1 hw1
  have HW1 := Lib.hid hw1
  clear hw1
  by_cases hlt : i < j
  · have d1 : decide (((i : Nat) : Int) < ((j : Nat) : Int)) = true := decide_eq_true (by omega)
    have d2 : decide (i < j) = true := decide_eq_true hlt
    have HT := Lib.hid (HTELL.out hlt)
    have HC1 := Lib.hid (HW1.out.below (Below.refl _ _).drew)
    have q1 := HW1.out.c1
    have q5 := HW1.out.t.root5.1
    clear HTELL HNOT hlt
    go_wp2_with fail
    go_still_tail 8, (by kernel_rfl)
    change wpList _ _ _ _ _ w1.drew
    generalize w1.drew = w2 at *
    go_wp2_with (go_at_call 42; refine (HT.out _ HC1.out).mono ?_; rintro e w3 ⟨b, rfl, hres⟩; have HR := Lib.hid hres; clear hres)
    go_end0
    exact ⟨⟨_, rfl⟩, HR.out⟩
  · have d1 : decide (((i : Nat) : Int) < ((j : Nat) : Int)) = false := decide_eq_false (by omega)
    have d2 : decide (i < j) = false := decide_eq_false hlt
    have HT := Lib.hid (HNOT.out hlt w1 HW1.out)
    clear HTELL HNOT
    go_wp2_with fail
    go_end0
    exact ⟨⟨_, rfl⟩, .inl HT.out⟩
end Go.Proofs.Yteodfbkfpboehaa
