
import Derived.Test.YtjgfgpkaeddjhaaTF
import Derived.Test.YtjgfgpkaeddjhaaOI
import Derived.RangeFuncNested
import Derived.RangeFuncBound
import Derived.RangeFuncCalls
import Derived.RangeFuncLeaves
import Derived.Shelf.Abstract
import Derived.Shelf.RegionOpen
import Derived.WalkKit
import Derived.OwnWalkIn
import Derived.TacticsInMore
import Derived.LoopNIn
import Derived.LoopIn
import Derived.Sort.QuietIn
import Derived.Test.YtjgfgpkaeddjhaaTW
import Derived.Deep.AppendLies
/- UJ -/
/- UJ: operations within a round walked as outside of one; a list told in pieces of 32 -/
namespace Go
section
variable {l n : Nat} {P : Program} {ops : Array Oper} {Q : Exit → Act → World → Prop} {a : Act} {w : World}
theorem opIn_of_plain {o : Oper} {K : Act → World → Prop} (hd : ∀ c, o.op ≠ .defer c) (h : o.wp P a w K Q) : o.wpIn (Fence.wide.inRound l) n P a w K Q := by
  unfold Oper.wp at h
  unfold Oper.wpIn
  rw [Oper.semAt_eq _ _ _ hd]
  refine ⟨fun _ _ => trivial, ?_⟩
  generalize (execOp a.eval o).run P w = r at *
  cases r with
  | ok x w' =>
    cases x with
    | value v => exact h
    | skip => exact h
    | defer d => exact h
    | enter f args => exact ⟨fun h => (by cases h), CallsIn.inRound l (callsIn_wide.2 h)⟩
    | row row args =>
      refine ⟨fun h => (by cases h), fun c cs _ => ?_⟩
      obtain ⟨v, w2, r, s⟩ := h c cs
      exact ⟨v, w2, r, stepsIn_wide.2 s⟩
    | _ => exact h.elim
  | halt x w' =>
    cases x with
    | panic v => exact h
    | _ => exact h.elim
def noDefer (l : List Oper) : Bool := l.all fun o => match o.op with
  | .defer _ => false
  | _ => true
theorem listIn_of_plain (hq : ∀ a w, ¬ Q .outgrown a w) : ∀ (rest : List Oper) {a : Act} {w : World}, noDefer rest = true → wpList P ops Q rest a w → wpListIn (Fence.wide.inRound l) n P ops Q rest a w
  | [], a, w, _, h => h
  | o :: rest, a, w, hd, h => by
    have hd' : (match o.op with | .defer _ => false | _ => true) = true ∧ noDefer rest = true := by
      simpa [noDefer] using hd
    unfold wpList at h
    unfold wpListIn
    split
    · rename_i hw
      rw [if_pos hw] at h
      rcases h with h | ⟨-, a', w', h⟩
      · refine Oper.wpIn_mono (K := wpList P ops Q rest) (fun a w h => listIn_of_plain hq rest hd'.2 h) (opIn_of_plain (fun c hc => ?_) h)
        have := hd'.1
        rw [hc] at this
        cases this
      · exact (hq a' w' h).elim
    · rename_i hw
      rw [if_neg hw] at h
      exact ⟨fun _ _ => trivial, listIn_of_plain hq rest hd'.2 h⟩
/-- A region within a round, as outside of one. -/
theorem regionIn_of_plain {id : Nat} {L : List Oper} (hq : ∀ a w, ¬ Q .outgrown a w) (hd : noDefer L = true) (h : wpList P L.toArray Q L a w) : (Code.region id L.toArray false).wpIn (Fence.wide.inRound l) n P Q a w :=
  wpIn_region_lit (listIn_of_plain hq L hd h)
end
end Go
namespace Go.Proofs.Ytjgfgpkaeddjhaa
open Go.RowKit Go.Shelf
set_option linter.unusedVariables false
set_option maxRecDepth 100000
attribute [local go_sem] Oper.semAt_some

structure PieceI (l : List Int) where
  k : Nat
  h : 32 * k < l.length
def piece (l : List Int) (k : Nat) : List Int := (l.drop (32 * k)).take 32
def uptoP (l : List Int) : Nat → List (PieceI l)
  | 0 => []
  | k + 1 => if h : 32 * k < l.length then uptoP l k ++ [⟨k, h⟩] else uptoP l k
theorem uptoP_len (l : List Int) : ∀ k, (uptoP l k).length ≤ k
  | 0 => Nat.le_refl _
  | k + 1 => by
    have := uptoP_len l k
    unfold uptoP
    split
    · rw [List.length_append, List.length_singleton]; omega
    · omega
theorem uptoP_succ {l : List Int} {k : Nat} (h : 32 * k < l.length) : uptoP l (k + 1) = uptoP l k ++ [⟨k, h⟩] := by
  conv => lhs; unfold uptoP
  rw [dif_pos h]
theorem uptoP_flat (l : List Int) : ∀ k, ((uptoP l k).flatMap fun x => piece l x.k) = l.take (32 * k)
  | 0 => by simp [uptoP]
  | k + 1 => by
    have ih := uptoP_flat l k
    by_cases h : 32 * k < l.length
    · rw [uptoP_succ h, List.flatMap_append, ih, show 32 * (k + 1) = 32 * k + 32 by omega, List.take_add]
      simp [piece]
    · conv => lhs; unfold uptoP
      rw [dif_neg h, ih, List.take_of_length_le (by omega), List.take_of_length_le (by omega)]
def pval (a : Option Addr) (l : List Int) (k : Nat) : Value := .slice (a.map fun x => x.add (32 * k)) (min 32 (l.length - 32 * k)) (min 32 (l.length - 32 * k))
theorem pval_ints {w : World} {a : Option Addr} {cap : Nat} {l : List Int} (h : Ints .i32 w (.slice a l.length cap) l) {k : Nat} (hk : 32 * k < l.length) : Ints .i32 w (pval a l k) (piece l k) := by
  obtain ⟨b, off, rfl, -, hxc, hcm, hc⟩ := h.opened (by omega)
  have hl : (piece l k).length = min 32 (l.length - 32 * k) := by unfold piece; rw [List.length_take, List.length_drop]
  unfold pval
  rw [← hl, Option.map_some, Go.WideShapes.add_plain]
  refine .inr ⟨b, off + 32 * k, (piece l k).length, rfl, by rw [hl]; omega, Nat.le_refl _, by rw [hl]; unfold maxLen; omega, fun i hi => ?_⟩
  rw [hl] at hi
  have := hc (32 * k + i) (by omega)
  rw [Nat.add_assoc, this]
  simp only [piece, List.getD]
  rw [List.getElem?_take, if_pos (by omega), List.getElem?_drop]
structure KpC (B0 bs bn : Nat) (W W' : World) : Prop where
  bel : Below B0 W W'
  s : W'.heap[bs]? = W.heap[bs]?
  n : W'.heap[bn]? = W.heap[bn]?
theorem KpC.refl (B0 bs bn : Nat) (W : World) : KpC B0 bs bn W W := ⟨Below.refl _ _, rfl, rfl⟩
theorem KpC.trans {B0 bs bn : Nat} {A B C : World} (h : KpC B0 bs bn A B) (k : KpC B0 bs bn B C) : KpC B0 bs bn A C := ⟨h.bel.trans k.bel, k.s.trans h.s, k.n.trans h.n⟩
theorem KpC.drew {B0 bs bn : Nat} {A B : World} (h : KpC B0 bs bn A B) (q : Nat) : KpC B0 bs bn A (B.drewN q) := ⟨blw_drewN h.bel q, h.s, h.n⟩

set_option maxHeartbeats 2000000 in
theorem chunk1_any {B0 bs bn : Nat} {a : Option Addr} {cap : Nat} {l : List Int} (n ln : Nat) (hn : 2 ≤ n) (J Jx : List (PieceI l) → World → Prop) (W : World) (hJ : AbidesFrom W.heap.size J)
    (hY : ∀ (pre : List (PieceI l)) (x : PieceI l) (W1 : World), J pre W1 → pre.length < l.length → YieldAt Fence.wide (n - 1) Try.prog ln #[pval a l x.k] W1 fun e W' =>
      (e = .returned (.bool true) ∧ J (pre ++ [x]) W' ∧ KpC B0 bs bn W1 W') ∨ (e = .returned (.bool false) ∧ Jx (pre ++ [x]) W'))
    (hbs : Cb bs 22 #[.slice a l.length cap] W) (hbn : Cb bn 3 #[.int .i64 32] W) (hv : Ints .i32 W (.slice a l.length cap) l) (hQ : l.length ≤ 400000) (h0 : J [] W) :
    CallsIn Fence.wide n Try.prog 82 #[.func (.yield ln) #[] #[], .pointer (some ⟨bs, 0, none⟩), .pointer (some ⟨bn, 0, none⟩)] W fun e W' => (∃ v, e = .returned v) ∧
      ((∃ ys, (∃ K, ys = uptoP l K ∧ l.length ≤ 32 * K) ∧ J ys W') ∨ (∃ pre, True ∧ Jx pre W')) := by
  have HC := Lib.hid (fun (wr : World) (hk : KpC B0 bs bn W wr) => (show wr.cell? ⟨bs, 0, none⟩ = some (.slice a l.length cap) ∧ wr.cell? ⟨bn, 0, none⟩ = some (.int .i64 32) from
    ⟨by rw [cell_of_row wr bs 0 _ _ _ (hk.s.trans hbs)]; rfl, by rw [cell_of_row wr bn 0 _ _ _ (hk.n.trans hbn)]; rfl⟩))
  have HY := Lib.hid hY
  have HJ := Lib.hid hJ
  have HV := Lib.hid hv
  have hlen := hv.len
  clear hY hJ hbs hbn hv
  refine callsIn_of_wp Try.func82 rfl trivial ?_ rfl
  simp only [Try.ntmps82, List.size_toArray, List.length_cons, List.length_nil, Nat.reduceAdd, Nat.reduceSub, Array.replicate_succ, Array.replicate_zero, List.push_toArray, List.append_toArray, List.nil_append, List.cons_append]
  gi_wp2
  gi_loopw [4] (fun s4 wr => ∃ k : Nat, 32 * k < l.length + 32 ∧ s4 = .int .i64 ((32 * k : Nat) : Nat) ∧ KpC B0 bs bn W wr ∧ J (uptoP l k) wr) (fun s4 _ => l.length + 32 - (intOf s4).toNat)
  case atStart => exact ⟨0, by omega, rfl, KpC.refl _ _ _ _, h0⟩
  case round =>
    obtain ⟨k, hk, rfl, hkp, hJk⟩ := hrel
    obtain ⟨cs, cn⟩ := HC.out wr hkp
    have HK := Lib.hid hkp
    have HJK := Lib.hid hJk
    clear hkp hJk
    by_cases hlt : 32 * k < l.length
    · obtain ⟨b, off, rfl, -, hxc, hcm, -⟩ := HV.out.opened (by omega)
      have g1 : decide (32 * (k : Int) < (l.length : Int)) = true := by rw [decide_eq_true_iff]; omega
      obtain ⟨m, hm⟩ : ∃ m : Nat, min 32 (l.length - 32 * k) = m := ⟨_, rfl⟩
      have hm2 : min (32 : Int) ((l.length - 32 * k : Nat) : Int) = ((m : Nat) : Int) := by omega
      have hml : 32 * k + m ≤ l.length := by omega
      have hmc : 32 * k + m ≤ cap := by omega
      have HU := Lib.hid (uptoP_succ hlt)
      have HYQ := Lib.hid (fun q => HY.out (uptoP l k) ⟨k, hlt⟩ (wr.drewN q) (HJ.out _ wr _ none HJK.out ⟨rfl, rfl, rfl, Nat.le_refl _, fun _ _ _ => rfl⟩ (fun r e => by cases e)) (by have := uptoP_len l k; omega))
      unfold pval at HYQ
      simp only [hm, Option.map_some, Go.WideShapes.add_plain] at HYQ
      have HD := Lib.hid (fun q => (HC.out (wr.drewN q) (HK.out.drew q)))
      clear HY HJ
      gi_wp2
      refine wpIn_wide.2 ?_
      go_quiet (fail)
      obtain ⟨fn, tmps, assign, body, hy, hR⟩ := HYQ.out nq
      obtain ⟨ds, dn⟩ := HD.out nq
      have HKQ := Lib.hid (HK.out.drew nq)
      generalize wr.drewN nq = wq at *
      have hm0 : ¬ m = 0 := by omega
      clear hm hm2 HYQ HD
      gi_wp2
      refine ⟨fun h => (by cases h), hR.mono ?_⟩
      rintro e W' (⟨rfl, hJ', hk'⟩ | ⟨rfl, hJx'⟩)
      · obtain ⟨-, en⟩ := HC.out W' (HKQ.out.trans hk')
        gi_wp2
        go_roundw
        case rel => exact ⟨k + 1, by omega, by go_num, HKQ.out.trans hk', by rw [HU.out]; exact hJ'⟩
        case measure => simp [intOf]; omega
      · gi_wp2
        refine bodyPost_ret (results_none rfl _ _ _) rfl ?_
        exact ⟨⟨_, rfl⟩, .inr ⟨_, trivial, hJx'⟩⟩
    · have g1 : decide (32 * (k : Int) < (l.length : Int)) = false := by rw [decide_eq_false_iff_not]; omega
      gi_wp2
      go_end0
      exact ⟨⟨_, rfl⟩, .inl ⟨_, ⟨k, rfl, by omega⟩, HJK.out⟩⟩
end Go.Proofs.Ytjgfgpkaeddjhaa

/- UK -/
/- UK: runes cut into short rows -/
namespace Go.Proofs.Ytjgfgpkaeddjhaa
open Go.RowKit Go.Shelf
set_option linter.unusedVariables false
set_option maxRecDepth 100000
attribute [local go_sem] Oper.semAt_some

theorem built_one {P : Program} (e : TypeId) (ie : TypeInfo) (hi : P.info? e = some ie) (z : Value) (hz : ie.zero = some z) (m : Nat) (hs : ie.size = m) (hm : 0 < m) (hm2 : m ≤ 1000) (cx : List Value) (hc : cx.length = m) :
    P.builtSlice e 1 [(0, .agg cx.toArray)] = some cx.toArray := by
  unfold Program.builtSlice
  simp only [hi, hz, hs, Nat.one_mul]
  rw [if_neg (by omega)]
  have e3 : (Value.agg cx.toArray).cells = cx.toArray := rfl
  have f : ∀ A : Array Value, A.size = m → (cx.toArray.zipIdx.foldl (fun cs (x : Value × Nat) => cs.setIfInBounds (0 + x.2) x.1) A) = cx.toArray := fun A hA => by
    apply Array.toList_inj.1
    rw [fold_setsA]
    have := sets_mid cx A.toList [] [] (by simp [hA, hc])
    simpa using this
  rw [Instr.fill]
  simp only [e3, Nat.zero_mul]
  rw [if_neg (by simp [hc])]
  rw [f _ (by simp), Instr.fill]

theorem chunkof_any (a : Option Addr) (n cap : Nat) (w : World) : Calls Try.prog 57 #[.slice a n cap, .int .i64 32] w fun e w' => ∃ bs bn : Nat, e = .returned (.func (.func 82) #[] #[.pointer (some ⟨bs, 0, none⟩), .pointer (some ⟨bn, 0, none⟩)]) ∧
      Cb bs 22 #[.slice a n cap] w' ∧ Cb bn 3 #[.int .i64 32] w' ∧ w.heap.size ≤ bs ∧ w.heap.size ≤ bn ∧ Below w.heap.size w w' := by
  have H1 := Lib.hid (show Cb w.heap.size 22 #[.slice a n cap] ((w.alloc (.cells #[.slice a n cap] 22)).alloc (.cells #[.int .i64 32] 3)) from (cb_new w _ _).alloc _)
  have H2 := Lib.hid (show Cb (w.heap.size + 1) 3 #[.int .i64 32] ((w.alloc (.cells #[.slice a n cap] 22)).alloc (.cells #[.int .i64 32] 3)) from by
    have := cb_new (w.alloc (.cells #[.slice a n cap] 22)) 3 #[.int .i64 32]; simpa using this)
  have H3 := Lib.hid (((Below.refl w.heap.size w).alloc (Nat.le_refl _) (.cells #[.slice a n cap] 22)).alloc (by simp) (.cells #[.int .i64 32] 3))
  go_enter Try.func57, Try.ntmps57
  go_wp2
  go_ret
  exact ⟨_, _, rfl, H1.out, H2.out, Nat.le_refl _, Nat.le_succ _, H3.out⟩

/-- What cut keeps between two rounds. -/
structure CutS (w0 : World) (B n0 : Nat) (l : List Int) (pre : List (PieceI l)) (xs : List Ck) (u : Value) (W : World) : Prop where
  fl : flat xs = pre.flatMap (fun x => piece l x.k)
  ln : xs.length = pre.length
  all : (flat xs).all code = true
  c0 : Cb B 74 #[.slice none 0 0] W
  c1 : Cb (B + 1) 30 #[.int .i64 0] W
  c2 : Cb (B + 2) 74 #[u] W
  own : W.ownsRow n0 58 32 u xs.length (Go.Proofs.Ytjgfgpkaeddjhaa.fl CkC xs)
  bel : Below B w0 W
  hi : n0 ≤ W.heap.size
structure CutX (w0 : World) (B : Nat) (l : List Int) (W : World) : Prop where
  bad : l.all code = false
  c0 : Cb B 74 #[.slice none 0 0] W
  c1 : Cb (B + 1) 30 #[.int .i64 3] W
  bel : Below B w0 W
section
variable {w0 w W W' : World} {B n0 : Nat} {l : List Int} {pre : List (PieceI l)} {xs : List Ck} {u : Value}
theorem cb_grown {b : Nat} {t : TypeId} {cs : Array Value} {row : Option Nat} (h : Cb b t cs W) (hg : W.grownBy W' row) (hr : ∀ r, row = some r → ∃ o : Obj, W.heap[r]? = some o ∧ o.isCells = false) : Cb b t cs W' := by
  refine (hg.block b h.lt (fun e => ?_)).trans h
  obtain ⟨o, ho, hc⟩ := hr b e.symm
  rw [show W.heap[b]? = _ from h] at ho
  cases ho
  cases hc
theorem own_grown {row : Option Nat} {e : TypeId} {base sz n : Nat} {v : Value} {cs : List Value} (h : W.ownsRow base e sz v n cs) (hg : W.grownBy W' row) (hr : ∀ r, row = some r → ∃ o : Obj, W.heap[r]? = some o ∧ o.isCells = false) : W'.ownsRow base e sz v n cs :=
  owns_kept h fun g hgb => by
    obtain ⟨cur, hc⟩ := own_tag h hgb
    have hcb : Cb g e cur W := hc
    exact (cb_grown hcb hg hr).trans hc.symm
theorem CutS.grown {row : Option Nat} (h : CutS w0 B n0 l pre xs u W) (hg : W.grownBy W' row) (hr : ∀ r, row = some r → n0 ≤ r ∧ ∃ o : Obj, W.heap[r]? = some o ∧ o.isCells = false) (hB : B ≤ n0) (hs : B ≤ W.heap.size) : CutS w0 B n0 l pre xs u W' :=
  ⟨h.fl, h.ln, h.all, cb_grown h.c0 hg (fun r e => (hr r e).2), cb_grown h.c1 hg (fun r e => (hr r e).2), cb_grown h.c2 hg (fun r e => (hr r e).2), own_grown h.own hg (fun r e => (hr r e).2), h.bel.grown hg hs (fun k e => by have := (hr k e).1; omega), Nat.le_trans h.hi hg.size⟩
theorem CutX.grown {row : Option Nat} (h : CutX w0 B l W) (hg : W.grownBy W' row) (hr : ∀ r, row = some r → n0 ≤ r ∧ ∃ o : Obj, W.heap[r]? = some o ∧ o.isCells = false) (hB : B ≤ n0) (hs : B ≤ W.heap.size) : CutX w0 B l W' :=
  ⟨h.bad, cb_grown h.c0 hg (fun r e => (hr r e).2), cb_grown h.c1 hg (fun r e => (hr r e).2), h.bel.grown hg hs (fun k e => by have := (hr k e).1; omega)⟩
theorem keeps_off {S : Nat → Prop} (h : Off S W W') (hs : ∀ k, S k → k < W.heap.size → ∃ cs t f, W.heap[k]? = some (.cells cs t f)) : KeepsOthers W W' :=
  ⟨h.size, fun k o hk ho => by
    by_cases hS : S k
    · obtain ⟨cs, t, f, e⟩ := hs k hS (lt_of_heap hk)
      rw [e] at hk
      cases hk
      cases ho
    · exact (h.block k (lt_of_heap hk) hS).trans hk⟩
end
theorem all_of_ofE {p : List Int} (h : ofE p = 0) : p.all code = true := by
  unfold ofE at h
  split at h
  · assumption
  · cases h
theorem with_worldI {F : Fence} {n : Nat} {P : Program} {c : Code} {Q : Exit → Act → World → Prop} {a : Act} {W0 : World} (G : World → Prop) (h0 : G W0) (h : ∀ W, G W → c.wpIn F n P Q a W) : c.wpIn F n P Q a W0 := h _ h0
/-- What cut answers. -/
def CutP (l : List Int) (w : World) (e : Ending) (w' : World) : Prop := Below w.heap.size w w' ∧
  ((l.all code = true ∧ ∃ (xs : List Ck) (u : Value) (n0 : Nat), e = .returned (.tuple #[u, .int .i64 0]) ∧ flat xs = l ∧ w.heap.size ≤ n0 ∧ w'.ownsRow n0 58 32 u xs.length (Go.Proofs.Ytjgfgpkaeddjhaa.fl CkC xs)) ∨
   (l.all code = false ∧ e = .returned (.tuple #[.slice none 0 0, .int .i64 3])))

set_option maxHeartbeats 2000000 in
theorem cut_any (v : Value) (l : List Int) (w : World) (hv : Ints .i32 w v l) (hQ : l.length ≤ 400000) : Calls Try.prog 38 #[v] w (CutP l w) := by
  obtain ⟨a, cap, rfl⟩ := hv.shape
  obtain ⟨ie, hie, hz, hs, hby⟩ : ∃ i, Try.prog.info? 58 = some i ∧ i.zero = some K_X.z ∧ i.size = 32 ∧ i.bytes = 128 := ⟨_, rfl, rfl, rfl, rfl⟩
  have HV := Lib.hid hv
  have HQ := Lib.hid hQ
  have H0 := Lib.hid (show Cb w.heap.size 74 #[.slice none 0 0] (((w.alloc (.cells #[.slice none 0 0] 74)).alloc (.cells #[.int .i64 0] 30)).alloc (.cells #[.slice none 0 0] 74)) from ((cb_new w _ _).alloc _).alloc _)
  have H1 := Lib.hid (show Cb (w.heap.size + 1) 30 #[.int .i64 0] (((w.alloc (.cells #[.slice none 0 0] 74)).alloc (.cells #[.int .i64 0] 30)).alloc (.cells #[.slice none 0 0] 74)) from by
    have := (cb_new (w.alloc (.cells #[.slice none 0 0] 74)) 30 #[.int .i64 0]).alloc (.cells #[.slice none 0 0] 74); simpa using this)
  have H2 := Lib.hid (show Cb (w.heap.size + 2) 74 #[.slice none 0 0] (((w.alloc (.cells #[.slice none 0 0] 74)).alloc (.cells #[.int .i64 0] 30)).alloc (.cells #[.slice none 0 0] 74)) from by
    have := cb_new ((w.alloc (.cells #[.slice none 0 0] 74)).alloc (.cells #[.int .i64 0] 30)) 74 #[.slice none 0 0]; simpa using this)
  have H3 := Lib.hid ((((Below.refl w.heap.size w).alloc (Nat.le_refl _) (.cells #[.slice none 0 0] 74)).alloc (by simp) (.cells #[.int .i64 0] 30)).alloc (by simp; omega) (.cells #[.slice none 0 0] 74))
  have H4 := Lib.hid (show (((w.alloc (.cells #[.slice none 0 0] 74)).alloc (.cells #[.int .i64 0] 30)).alloc (.cells #[.slice none 0 0] 74)).heap.size = w.heap.size + 3 by simp)
  clear hv hQ
  refine (callsIn_wide (n := 9)).1 ?_
  refine callsIn_of_wp_marks Try.func38 rfl trivial ?_ rfl
  simp only [Try.ntmps38, List.size_toArray, List.length_cons, List.length_nil, Nat.reduceAdd, Nat.reduceSub, Array.replicate_succ, Array.replicate_zero, List.push_toArray, List.append_toArray, List.nil_append, List.cons_append]
  gi_wp2_with (refine ⟨trivial, ?_⟩; gi_at_call 57; refine (callsIn_wide.2 (chunkof_any _ _ _ _)).mono ?_; rintro e w1 ⟨bs, bn, rfl, q1, q2, q3, q4, q5⟩; have Q12 := Lib.hid (And.intro q1 q2); have Q5 := Lib.hid q5; rw [H4.out] at q3 q4; clear q1 q2 q5; refine Hid.out ?_)
  refine Lib.hid ?_
  have C1 := Lib.hid (show CutS w w.heap.size w1.heap.size l [] [] (.slice none 0 0) w1 from ⟨rfl, rfl, rfl, H0.out.below Q5.out, H1.out.below Q5.out, H2.out.below Q5.out, World.ownsRow_nil _ _ _ _, below_add H3.out Q5.out H3.out.size, Nat.le_refl _⟩)
  have Z1 := Lib.hid (show w.heap.size + 3 ≤ w1.heap.size by have := Q5.out.size; have := H4.out; omega)
  clear H0 H1 H2 H3 H4 Q5
  gi_wp2
  have hz1 := Z1.out
  refine wpIn_rangeFunc_ownF (α := PieceI l) (encs := fun x => #[pval a l x.k]) (Kp := KpC w.heap.size bs bn) (S := fun ys => ∃ K, ys = uptoP l K ∧ l.length ≤ 32 * K) (Sp := fun _ => True) (N := l.length) (w0 := w1) rfl (by decide)
    (gf := 82) (lb := #[.pointer (some ⟨bs, 0, none⟩), .pointer (some ⟨bn, 0, none⟩)]) rfl trivial (enters_of Try.func82 (by kernel_rfl) rfl) ?seq (fun h k => h.trans k) ?kb (Below.refl _ _) (fun _ => rfl)
    (fun pre W => ∃ xs u, CutS w w.heap.size w1.heap.size l pre xs u W)
    (fun c _ W => c = .ret ∧ CutX w w.heap.size l W)
    (fun pre A B row ⟨xs, u, h⟩ hg hr => ⟨xs, u, h.grown hg hr (by omega) h.bel.size⟩)
    (fun c pre A B row ⟨e, h⟩ hg hr => ⟨e, h.grown hg hr (by omega) h.bel.size⟩)
    ⟨_, _, C1.out⟩
    (fun x => { tmps := #[.slice a l.length cap, undef, .pointer (some ⟨w.heap.size, 0, none⟩), .pointer (some ⟨w.heap.size + 1, 0, none⟩), .pointer (some ⟨w.heap.size + 1 + 1, 0, none⟩), pval a l x.k, undef, undef, .slice a l.length cap, .func (.func 82) #[] #[.pointer (some ⟨bs, 0, none⟩), .pointer (some ⟨bn, 0, none⟩)], pval a l x.k, undef, undef, undef, undef, undef, undef, undef, undef, undef, undef, undef, undef, undef], defers := [] }) ?assign ?body ?done ?stop
  case seq =>
    intro ln J Jx W hW hJ hJx hY h0
    exact chunk1_any (cap := cap) 8 ln (by decide) J Jx W hJ hY (Q12.out.1.below hW) (Q12.out.2.below hW) (HV.out.below (below_add C1.out.bel hW C1.out.bel.size)) HQ.out h0
  case kb =>
    intro W k o o' hk ho h1 h2
    have hG := grownBy_putObj' W k o'
    have hk2 := lt_of_heap ho
    have hb1 := Q12.out.1.lt
    have hb2 := Q12.out.2.lt
    exact ⟨belowK_b (w := w1) (by omega) W k o o' hk ho h1 h2, hG.block bs (by omega) (fun e => by injection e; omega), hG.block bn (by omega) (fun e => by injection e; omega)⟩
  case assign =>
    intro ln x W K hK
    gi_wp2
    exact hK
  case body =>
    rintro ln pre x W ⟨xs, u, hC⟩ hlen
    have hP := pval_ints (HV.out.below hC.bel) x.h
    have hpl : (piece l x.k).length ≤ 32 := by unfold piece; rw [List.length_take]; omega
    have HFL := Lib.hid (show (pre ++ [x]).flatMap (fun x => piece l x.k) = flat xs ++ piece l x.k by rw [List.flatMap_append, hC.fl]; simp)
    have HBAD := Lib.hid (show (piece l x.k).all code = false → l.all code = false from fun h => by
      rw [Bool.eq_false_iff] at h ⊢
      intro ha
      apply h
      rw [List.all_eq_true] at ha ⊢
      intro r hr
      unfold piece at hr
      exact ha r (List.mem_of_mem_drop (List.mem_of_mem_take hr)))
    generalize piece l x.k = p at *
    generalize pval a l x.k = pv at *
    have hOF := of_any pv p W hP
    have HC := Lib.hid hC
    by_cases h0 : ofE p = 0
    · rw [ofV_ok h0] at hOF
      have HOF := Lib.hid hOF
      clear hOF hP
      refine wpIn_block (wpIn_seq_k (fun K hK => ?_))
      refine regionIn_of_plain (fun _ _ h => h) rfl ?_
      go_wp2_with (first
        | (go_at_call 58; refine HOF.out.mono ?_; rintro e w4 ⟨rfl, b4⟩; have B4 := Lib.hid b4; have V4 := Lib.hid (cb_new w4 58 (row zero32)); clear b4)
        | (refine wpList_store_row rfl 58 (.tmp 6) (.tmp 14) rfl w4.heap.size (row (slots p)) rfl rfl _ _ V4.out (xinfo (xc_size _ hpl)) (by rw [xc_size _ hpl]; exact xz_size) (row_one _) ?_))
      have hw4 := V4.out.lt
      rw [World.size_alloc] at hw4
      refine with_worldI (fun W5 => Cb w4.heap.size 58 (row (slots p)) W5 ∧ Below W.heap.size W W5) ⟨V4.out.set _, below_row (B4.out.alloc B4.out.size _) B4.out.size⟩ fun W5 hW5 => ?_
      have V5 := Lib.hid hW5.1
      have C5 := Lib.hid hC.c2
      have c5 : W5.cell? ⟨w.heap.size + 1 + 1, 0, none⟩ = some u := (hC.c2.below hW5.2).cell 0
      have S5 := Lib.hid (show W5.ownsRow w1.heap.size 58 32 u xs.length (Go.Proofs.Ytjgfgpkaeddjhaa.fl CkC xs) from owns_kept hC.own (fun g hg => hW5.2.block g (own_lt7 hC.own hg)))
      have HB5 := Lib.hid hW5.2
      obtain ⟨ga, gc, rfl, -, -⟩ := own_shape S5.out
      have HBS := Lib.hid (built_one 58 ie hie K_X.z hz 32 hs (by decide) (by decide) ((slots p).map (Value.int .i32)) (by rw [List.length_map]; exact slots_len hpl))
      rw [show ((slots p).map (Value.int .i32)).toArray = row (slots p) from rfl] at HBS
      have hl5 : xs.length + 1 ≤ 400001 := by have := HC.out.ln; have := HQ.out; omega
      have HNB := Lib.hid (heap_alloc_new W5 (.cells (row (slots p)) 58))
      have S6 := Lib.hid (show (W5.alloc (.cells (row (slots p)) 58)).ownsRow w1.heap.size 58 32 (.slice ga xs.length gc) xs.length (Go.Proofs.Ytjgfgpkaeddjhaa.fl CkC xs) from owns_kept S5.out (fun g hg => heap_alloc_old W5 _ (own_lt7 S5.out hg)))
      have Z5 := Lib.hid (show w1.heap.size ≤ W.heap.size ∧ W.heap.size ≤ W5.heap.size ∧ w.heap.size + 3 ≤ W.heap.size from ⟨hC.hi, hW5.2.size, Nat.le_trans hz1 hC.hi⟩)
      have hrl : (row (slots p)).toList.length = 1 * 32 := by rw [Array.length_toList, xc_size _ hpl]
      have hones : ∀ v ∈ (row (slots p)).toList, v.oneCell' = true := fun v hv => Array.all_eq_true_iff_forall_mem.1 (row_one (slots p)) v (by simpa using hv)
      have hzs : K_X.z.cells.size = 32 := by show (K_X.zc.toArray).size = 32; rw [List.size_toArray]; exact K_X.lenZ
      have hbs : w1.heap.size ≤ (W5.alloc (.cells (row (slots p)) 58)).heap.size := by have := Z5.out; rw [World.size_alloc]; omega
      have hmx : xs.length + 1 ≤ maxLen := by unfold maxLen; omega
      have hmy : (xs.length + 1) * 128 ≤ 140737488355328 := by omega
      clear B4 hw4 V4 HOF hC hW5
      refine wpIn_seq_k (fun K2 hK2 => ?_)
      have HK2 := Lib.hid hK2
      clear hK2
      gi_wp2
      refine HK2.out _ _ ?_
      refine regionIn_of_plain (fun _ _ h => h) rfl ?_
      go_wp2_with (first
        | (refine wpList_load_roww 58 (.tmp 6) rfl w4.heap.size rfl (by rfl) _ _ _ _ V5.out Try.underlying58 rfl (xinfo (xc_size _ hpl)) ?_)
        | (refine wpList_buildSliceL rfl 74 58 1 _ rfl W5.heap.size rfl _ rfl Try.underlying74 [(0, .agg (row (slots p)))] rfl (row (slots p)) HBS.out ?_)
        | (at_builtin; refine wpList_append_lies _ rfl (.tmp 19) (.tmp 21) 74 rfl w1.heap.size 58 ie K_X.z 32 128 Try.underlying74 hie hz hs hby hzs (by decide) (.slice ga xs.length gc) xs.length (Go.Proofs.Ytjgfgpkaeddjhaa.fl CkC xs) rfl S6.out ⟨W5.heap.size, 0, none⟩ 1 1 (row (slots p)).toList rfl hrl (World.news_of_block HNB.out) hones (by decide) hmx hmy hbs _ rfl ?_; intro g6 cap6 w6 ho6 hg6 ha6 hl6; have CC6 := C5.out; refine Hid.out ?_))
      have hz5 := Z5.out
      have hob : ∀ g, (Value.slice ga xs.length gc).ownBlock = some g → w1.heap.size ≤ g := fun g hg => own_base S5.out hg
      have O6 : Off (fun k => k = w.heap.size + 1 + 1 ∨ (Value.slice ga xs.length gc).ownBlock = some k) W w6 := (Off.of_below (HB5.out.alloc HB5.out.size _)).seq (Off.of_grown hg6 (fun g hg => .inr hg))
      have C6 : Cb (w.heap.size + 1 + 1) 74 #[.slice ga xs.length gc] w6 := (hg6.block _ (by rw [World.size_alloc]; omega) (fun e => by have := hob _ e.symm; omega)).trans (C5.out.below (HB5.out.alloc HB5.out.size _))
      have c6 : w6.cell? ⟨w.heap.size + 1 + 1, 0, none⟩ = some (.slice ga xs.length gc) := C6.cell 0
      have f6 := C6.frozen 0
      have O7 := O6.seq (Off.of_grown (grown_set (w := w6) (g := w.heap.size + 1 + 1) (o := 0) (.slice (some ⟨g6, 0, none⟩) (xs.length + 1) cap6)) (fun g hg => by cases hg; exact .inl rfl))
      have hb1 := Q12.out.1.lt
      have hb2 := Q12.out.2.lt
      have hnS : ∀ k, k < w1.heap.size → k ≠ w.heap.size + 1 + 1 → ¬ (k = w.heap.size + 1 + 1 ∨ (Value.slice ga xs.length gc).ownBlock = some k) := fun k h1 h2 h => by
        rcases h with h | h
        · exact h2 h
        · have := hob _ h; omega
      have hg6n : w1.heap.size ≤ g6 := by
        rcases ha6 with h | h
        · exact hob _ h
        · rw [h]; exact hbs
      have ST := Lib.hid (show KeepsOthers W (w6.setCell ⟨w.heap.size + 1 + 1, 0, none⟩ (.slice (some ⟨g6, 0, none⟩) (xs.length + 1) cap6)) ∧ KpC w.heap.size bs bn W (w6.setCell ⟨w.heap.size + 1 + 1, 0, none⟩ (.slice (some ⟨g6, 0, none⟩) (xs.length + 1) cap6)) ∧
          ∃ xs' u', CutS w w.heap.size w1.heap.size l (pre ++ [x]) xs' u' (w6.setCell ⟨w.heap.size + 1 + 1, 0, none⟩ (.slice (some ⟨g6, 0, none⟩) (xs.length + 1) cap6)) from by
        have hC := HC.out
        refine ⟨keeps_off O7 (fun k hk hlt => ?_), ⟨O7.below (fun k hk => ?_) (by omega), O7.block bs (by omega) (hnS _ hb1 (by omega)), O7.block bn (by omega) (hnS _ hb2 (by omega))⟩, xs ++ [⟨p, chunky_of h0⟩], _, ?_, ?_, ?_, ?_, ?_, heap_set _ C6, ?_, ?_, ?_⟩
        · rcases hk with rfl | hk
          · exact ⟨_, _, _, hC.c2⟩
          · obtain ⟨cur, hc⟩ := own_tag hC.own hk
            exact ⟨_, _, _, hc⟩
        · rcases hk with rfl | hk
          · omega
          · have := hob _ hk; omega
        · rw [flat_app, HFL.out]; simp [flat]
        · rw [List.length_append, List.length_append, hC.ln]; rfl
        · rw [flat_app, List.all_append, hC.all]; simp [flat]; exact fun r hr => List.all_eq_true.1 (all_of_ofE h0) r hr
        · exact hC.c0.off O7 (hnS _ (by omega) (by omega))
        · exact hC.c1.off O7 (hnS _ (by omega) (by omega))
        · have e : (xs ++ [(⟨p, chunky_of h0⟩ : Ck)]).length = xs.length + 1 := by simp
          rw [e, fl_app, fl_one]
          exact owns_kept ho6 (fun g hg => by
            cases hg
            exact (grown_set (w := w6) (g := w.heap.size + 1 + 1) (o := 0) (.slice (some ⟨g6, 0, none⟩) (xs.length + 1) cap6)).block g6 hl6 (fun e => by injection e; omega))
        · exact hC.bel.trans (O7.below (fun k hk => by
            rcases hk with rfl | hk
            · omega
            · have := hob _ hk; omega) (by omega))
        · have := O7.size; omega)
      clear O6 O7 C6 hnS ho6 hg6 ha6 hl6 hob
      refine Lib.hid ?_
      go_wp2
      exact ST.out
    · have h3 : ofE p = 3 := by
        unfold ofE at h0 ⊢
        split
        · rename_i hp
          rw [if_pos hp, if_neg (by omega)] at h0
          exact absurd rfl h0
        · rfl
      have hnc : p.all code = false := by
        rw [Bool.eq_false_iff]
        intro hp
        unfold ofE at h3
        rw [if_pos hp, if_neg (by omega)] at h3
        cases h3
      rw [ofV_not h3 (by decide)] at hOF
      have HOF := Lib.hid hOF
      have HB := Lib.hid (HBAD.out hnc)
      clear hOF hP h0 HBAD HFL
      refine wpIn_block (wpIn_seq_k (fun K hK => ?_))
      refine regionIn_of_plain (fun _ _ h => h) rfl ?_
      go_wp2_with (first
        | (go_at_call 58; refine HOF.out.mono ?_; rintro e w4 ⟨rfl, b4⟩; have B4 := Lib.hid b4; have V4 := Lib.hid (cb_new w4 58 (row zero32)); clear b4)
        | (refine wpList_store_row rfl 58 (.tmp 6) (.tmp 14) rfl w4.heap.size (row zero32) rfl rfl _ _ V4.out (xinfo xz_size) rfl (row_one _) ?_))
      refine with_worldI (fun W5 => Below W.heap.size W W5) (below_row (B4.out.alloc B4.out.size _) B4.out.size) fun W5 hW5 => ?_
      have hC0 := hC.c0.below hW5
      have hC1 := hC.c1.below hW5
      have c0 := hC0.cell 0
      have c1 := hC1.cell 0
      have f0 := hC0.frozen 0
      have f1 := hC1.frozen 0
      have O7 : Off (fun k => k = w.heap.size ∨ k = w.heap.size + 1) W ((W5.setCell ⟨w.heap.size, 0, none⟩ (.slice none 0 0)).setCell ⟨w.heap.size + 1, 0, none⟩ (.int .i64 3)) :=
        ((Off.of_below hW5).seq (Off.of_grown (grown_set (w := W5) (g := w.heap.size) (o := 0) (.slice none 0 0)) (fun g hg => by cases hg; exact .inl rfl))).seq (Off.of_grown (grown_set (g := w.heap.size + 1) (o := 0) (.int .i64 3)) (fun g hg => by cases hg; exact .inr rfl))
      have hhi := hC.hi
      have d0 : Cb w.heap.size 74 #[.slice none 0 0] (W5.setCell ⟨w.heap.size, 0, none⟩ (.slice none 0 0)) := heap_set _ hC0
      have d1 : Cb (w.heap.size + 1) 30 #[.int .i64 0] (W5.setCell ⟨w.heap.size, 0, none⟩ (.slice none 0 0)) := hC1.off (Off.of_grown (S := fun k => k = w.heap.size) (grown_set (w := W5) (g := w.heap.size) (o := 0) (.slice none 0 0)) (fun g hg => by cases hg; rfl)) (by omega)
      have f1' := d1.frozen 0
      have c1' := d1.cell 0
      have ST := Lib.hid (show KeepsOthers W ((W5.setCell ⟨w.heap.size, 0, none⟩ (.slice none 0 0)).setCell ⟨w.heap.size + 1, 0, none⟩ (.int .i64 3)) ∧ (Code.ret = .ret ∧ CutX w w.heap.size l ((W5.setCell ⟨w.heap.size, 0, none⟩ (.slice none 0 0)).setCell ⟨w.heap.size + 1, 0, none⟩ (.int .i64 3))) from
        ⟨keeps_off O7 (fun k hk _ => by rcases hk with rfl | rfl; exact ⟨_, _, _, hC.c0⟩; exact ⟨_, _, _, hC.c1⟩), rfl, HB.out, d0.off (Off.of_grown (S := fun k => k = w.heap.size + 1) (grown_set (g := w.heap.size + 1) (o := 0) (.int .i64 3)) (fun g hg => by cases hg; rfl)) (by omega), heap_set _ d1, hC.bel.trans (O7.below (fun k hk => by omega) (by omega))⟩)
      clear O7 hC0 hC1 hC d0 d1 V4 B4 HC HOF hW5
      gi_wp2
      exact ⟨ST.out.1, rfl, ST.out.2.2⟩
  case done =>
    rintro D ys W hD ⟨K, rfl, hK⟩ ⟨xs, u, hC⟩ hDW
    have hfl : flat xs = l := by rw [hC.fl, uptoP_flat, List.take_of_length_le (by omega)]
    obtain ⟨ga, gc, rfl, -, -⟩ := own_shape hC.own
    have c0 := hC.c0.cell 0
    have c2 : W.cell? ⟨w.heap.size + 1 + 1, 0, none⟩ = some (.slice ga xs.length gc) := hC.c2.cell 0
    have f0 := hC.c0.frozen 0
    have hG1 := grown_set (w := W) (g := w.heap.size) (o := 0) (.slice ga xs.length gc)
    have O1 : Off (fun k => k = w.heap.size) W (W.setCell ⟨w.heap.size, 0, none⟩ (.slice ga xs.length gc)) := Off.of_grown hG1 (fun g hg => by cases hg; rfl)
    have d0 : Cb w.heap.size 74 #[.slice ga xs.length gc] (W.setCell ⟨w.heap.size, 0, none⟩ (.slice ga xs.length gc)) := heap_set _ hC.c0
    have d1 : Cb (w.heap.size + 1) 30 #[.int .i64 0] (W.setCell ⟨w.heap.size, 0, none⟩ (.slice ga xs.length gc)) := hC.c1.off O1 (by omega)
    have dD := (O1.block D (lt_of_heap hDW) (by omega)).trans hDW
    have do1 := owns_kept hC.own (w' := W.setCell ⟨w.heap.size, 0, none⟩ (.slice ga xs.length gc)) (fun g hg => O1.block g (own_lt7 hC.own hg) (by have := own_base hC.own hg; omega))
    have db := hC.bel.trans (O1.below (B := w.heap.size) (fun k hk => by omega) hC.bel.size)
    have c1 := d1.cell 0
    have f1 := d1.frozen 0
    have O2 : Off (fun k => k = w.heap.size + 1) (W.setCell ⟨w.heap.size, 0, none⟩ (.slice ga xs.length gc)) ((W.setCell ⟨w.heap.size, 0, none⟩ (.slice ga xs.length gc)).setCell ⟨w.heap.size + 1, 0, none⟩ (.int .i64 0)) := Off.of_grown (grown_set (g := w.heap.size + 1) (o := 0) (.int .i64 0)) (fun g hg => by cases hg; rfl)
    have e0 := d0.off O2 (by omega)
    have e1 : Cb (w.heap.size + 1) 30 #[.int .i64 0] ((W.setCell ⟨w.heap.size, 0, none⟩ (.slice ga xs.length gc)).setCell ⟨w.heap.size + 1, 0, none⟩ (.int .i64 0)) := heap_set _ d1
    have eD := (O2.block D (lt_of_heap dD) (by omega)).trans dD
    have eo := owns_kept do1 (w' := (W.setCell ⟨w.heap.size, 0, none⟩ (.slice ga xs.length gc)).setCell ⟨w.heap.size + 1, 0, none⟩ (.int .i64 0)) (fun g hg => O2.block g (own_lt7 do1 hg) (by have := own_base hC.own hg; omega))
    have eb := db.trans (O2.below (B := w.heap.size) (fun k hk => by omega) db.size)
    have HE := Lib.hid (And.intro e0 (And.intro e1 (And.intro eD (And.intro eo eb))))
    have hca := hC.all
    clear e0 e1 eD eo eb O2 O1 hG1 d0 d1 dD do1 db
    gi_wp2
    obtain ⟨e0, e1, eD, eo, eb⟩ := HE.out
    generalize (W.setCell ⟨w.heap.size, 0, none⟩ (.slice ga xs.length gc)).setCell ⟨w.heap.size + 1, 0, none⟩ (.int .i64 0) = W4 at *
    have hG := grownBy_putObj' W4 D (.deferred none)
    have O3 : Off (fun k => k = D) W4 (W4.putObj D (.deferred none)) := Off.of_grown hG (fun g hg => by cases hg; rfl)
    have g0 := (e0.off O3 (by omega)).cell 0
    have g1 := (e1.off O3 (by omega)).cell 0
    have go := own_grown eo hG (fun r e => by cases e; exact ⟨_, eD, rfl⟩)
    have gb := eb.trans (O3.below (B := w.heap.size) (fun k hk => by omega) eb.size)
    refine ⟨by simp, .inl ⟨_, _, rfl, run_takeDeferred eD, ?_⟩⟩
    refine ⟨.tuple #[.slice ga xs.length gc, .int .i64 0], ?_, gb, .inl ⟨by rw [← hfl]; exact hca, xs, _, _, rfl, hfl, by omega, go⟩⟩
    simp [results, Try.f38, go_sem, g0, g1]
  case stop =>
    rintro D c pre W hD _ ⟨rfl, hX⟩ hDW
    have e0 := hX.c0
    have e1 := hX.c1
    have hG := grownBy_putObj' W D (.deferred none)
    have O1 : Off (fun k => k = D) W (W.putObj D (.deferred none)) := Off.of_grown hG (fun g hg => by cases hg; rfl)
    have d0 := (e0.off O1 (by omega)).cell 0
    have d1 := (e1.off O1 (by omega)).cell 0
    have db := hX.bel.trans (O1.below (B := w.heap.size) (fun k hk => by omega) hX.bel.size)
    have hb := hX.bad
    gi_wp2
    refine ⟨by simp, .inl ⟨_, _, rfl, run_takeDeferred hDW, ?_⟩⟩
    refine ⟨.tuple #[.slice none 0 0, .int .i64 3], ?_, db, .inr ⟨hb, rfl⟩⟩
    simp [results, Try.f38, go_sem, d0, d1]
end Go.Proofs.Ytjgfgpkaeddjhaa
