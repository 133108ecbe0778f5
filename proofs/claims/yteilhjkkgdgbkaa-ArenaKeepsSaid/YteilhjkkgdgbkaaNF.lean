
import Derived.Test.YteilhjkkgdgbkaaNE
/- NF: an arena, and two lists of numbers beside it -/
namespace Go
/-- 'append(s, x...)' at a step of a region that draws its order, x of whatever length. -/
theorem step_append_at7 {P : Program} {w : World} {ops : Array Oper} {o : Oper} {a : Act} {K : Act → World → Prop} {Q : Exit → Act → World → Prop} {E : Prop} (hgd : o.guard = none) (s x : Operand) (t : TypeId)
    (ho : o.op = .call { callee := .builtin .append, args := #[s, x], argTypes := #[t, t] })
    (base : Nat) (e : TypeId) (i : TypeInfo) (z : Value) (size bytes : Nat) (ht : P.underlying t = some (.slice e)) (hi : P.info? e = some i) (hz : i.zero = some z)
    (hsize : i.size = size) (hby : i.bytes = bytes) (hzs : z.cells.size = size) (hsz : 0 < size)
    (v : Value) (n : Nat) (xs : List Value) (hs : a.eval s = v) (hown : w.ownsRow base e size v n xs)
    (ad : Addr) (m c : Nat) (news : List Value) (hx : a.eval x = .slice (some ad) m c) (hl : news.length = m * size) (hnews : ∀ j u, news[j]? = some u → w.cell? (ad.add j) = some u) (h1 : ∀ u ∈ news, u.oneCell' = true)
    (h63 : n + m ≤ maxLen) (hbytes : (n + m) * bytes ≤ 140737488355328) (hbase : base ≤ w.heap.size)
    (h : ∀ v' w', w'.ownsRow base e size v' (n + m) (xs ++ news) → w.grownBy w' v.ownBlock → (v'.ownBlock = v.ownBlock ∨ v'.ownBlock = some w.heap.size) → K (a.put o.dst v') w') :
    if Region.wanted o (yielded ops a.tmps) = true then Oper.wp P o a w K Q else E := by
  have hw : Region.wanted o (yielded ops a.tmps) = true := by simp [Region.wanted, hgd]
  rw [if_pos hw]
  obtain ⟨v', w', hr, h2, h3, _, h5⟩ := run_append_own_at (P := P) w base t o.type e i z size bytes ht hi hz hsize hby hzs hsz v n xs hown ad m c news hl hnews h1 h63 hbytes hbase
  unfold Oper.wp execOp
  simp only [ho, resolve, invoke, builtin, Sem.run_bind, Sem.run_pure, Result.andThen_ok, List.map_toArray, List.map_cons, List.map_nil, hs, hx, hr]
  exact h v' w' h2 h3 h5
end Go
namespace Go.Proofs.Yteilhjkkgdgbkaa
open Go.RowKit
set_option linter.unusedVariables false

theorem own_fresh7 (w : World) (t : TypeId) (m : Nat) : (w.alloc (.cells #[] t)).ownsRow w.heap.size t m (.slice (some ⟨w.heap.size, 0, none⟩) 0 0) 0 [] :=
  ⟨by simp, .inr ⟨w.heap.size, 0, #[], rfl, Nat.le_refl _, heap_alloc_new w _, Nat.le_refl _, Nat.zero_le _, by simp, by simp⟩⟩
/-- A row that a call made, in blocks of its own. -/
theorem fresh_grown {w w' : World} {t : TypeId} (hg : (w.alloc (.cells #[] t)).grownBy w' (Value.slice (some ⟨w.heap.size, 0, none⟩) 0 0).ownBlock) : Below w.heap.size w w' :=
  ((Below.refl _ w).alloc (Nat.le_refl _) _).grown hg (by simp) (fun k e => by cases e; exact Nat.le_refl _)
/-- A number in a cell. -/
def natC : Cel Nat := ⟨fun i => [.int .i64 (i : Nat)], 1, fun _ => rfl, fun x u hu => by obtain rfl := List.mem_singleton.1 hu; rfl, by decide⟩
theorem nat_at {w : World} {a : Option Addr} {m cap : Nat} {I : List Nat} (h : Row natC w (.slice a m cap) I) (h0 : 0 < I.length) : ∃ b off, a = some ⟨b, off, none⟩ ∧ I.length ≤ cap ∧ cap ≤ maxLen ∧ ∀ j (hj : j < I.length), w.cell? ⟨b, off + j, none⟩ = some (.int .i64 (I[j] : Nat)) := by
  obtain ⟨b, off, ha, hn, hc, hm, hb, hat, -⟩ := Row.opened h h0
  refine ⟨b, off, ha, hc, hm, fun j hj => ?_⟩
  have hcell := hat j hj 0 _ rfl
  rw [show j * natC.m = j from Nat.mul_one j, Nat.add_zero] at hcell
  exact hcell
/-- An owned row of numbers: where its cells are. -/
theorem own_nat {w : World} {base : Nat} {t : TypeId} {v : Value} {I : List Nat} (h : w.ownsRow base t 1 v I.length (fl natC I)) (h0 : 0 < I.length) : ∃ g cap, v = .slice (some ⟨g, 0, none⟩) I.length cap ∧ I.length ≤ cap ∧ cap ≤ maxLen ∧ g < w.heap.size ∧ ∀ j (hj : j < I.length), w.cell? ⟨g, j, none⟩ = some (.int .i64 (I[j] : Nat)) := by
  obtain ⟨g, cap, rfl, -, hg⟩ := h.form h0
  obtain ⟨b, off, e1, e2, e3, e4⟩ := nat_at (Row.of_owns (C := natC) h).1 h0
  injection e1 with e1
  injection e1 with e5 e6
  subst e5 e6
  exact ⟨g, cap, rfl, e2, e3, hg, fun j hj => by have := e4 j hj; rwa [Nat.zero_add] at this⟩

structure AgR (w0 : World) (B ab : Nat) (lv fv : Value) (L F : List Nat) (S : Nat → Prop) (A : ArS Int) (n : Nat) (wr : World) : Prop where
  t : Ar_6 B S ab A n wr
  bel : Below w0.heap.size w0 wr
  hl : wr.ownsRow 0 3 1 lv L.length (fl natC L)
  hf : wr.ownsRow 0 3 1 fv F.length (fl natC F)
  lB : ∀ g, lv.ownBlock = some g → B ≤ g ∧ ¬ S g
  fB : ∀ g, fv.ownBlock = some g → B ≤ g ∧ ¬ S g
  ap : ∀ g, lv.ownBlock = some g → fv.ownBlock ≠ some g
  hw : w0.heap.size ≤ B

section
variable {w0 : World} {B ab : Nat} {lv fv lv' fv' : Value} {L F L' F' : List Nat} {S : Nat → Prop} {A : ArS Int} {n : Nat} {wr w' w1 w4 : World}
theorem AgR.below (h : AgR w0 B ab lv fv L F S A n wr) (hb : Below wr.heap.size wr w') : AgR w0 B ab lv fv L F S A n w' :=
  ⟨h.t.below hb, below_add h.bel hb h.bel.size, owns_kept h.hl (fun g hg => hb.block g (own_lt7 h.hl hg)), owns_kept h.hf (fun g hg => hb.block g (own_lt7 h.hf hg)), h.lB, h.fB, h.ap, h.hw⟩
theorem AgR.cut (h : AgR w0 B ab lv fv L F S A n wr) : AgR w0 B ab lv fv L F (fun k => S k ∧ k < wr.heap.size) A n wr :=
  ⟨h.t.cutS, h.bel, h.hl, h.hf, fun g hg => ⟨(h.lB g hg).1, fun hc => (h.lB g hg).2 hc.1⟩, fun g hg => ⟨(h.fB g hg).1, fun hc => (h.fB g hg).2 hc.1⟩, h.ap, h.hw⟩
theorem AgR.le (h : AgR w0 B ab lv fv L F S A n wr) {m : Nat} (hm : n ≤ m) : AgR w0 B ab lv fv L F S A m wr := { h with t := h.t.le hm }
theorem AgR.first (h : Ar_6 w0.heap.size (fun k => w0.heap.size ≤ k) ab A n wr) (hb : Below w0.heap.size w0 wr) : AgR w0 w0.heap.size ab (.slice none 0 0) (.slice none 0 0) [] [] (fun k => w0.heap.size ≤ k) A n wr :=
  ⟨h, hb, own_nil _ _ _ _, own_nil _ _ _ _, fun g hg => by simp [Value.ownBlock] at hg, fun g hg => by simp [Value.ownBlock] at hg, fun g hg => by simp [Value.ownBlock] at hg, Nat.le_refl _⟩
/-- Where the arena alone has turned. -/
theorem AgR.off (h : AgR w0 B ab lv fv L F S A n wr) {A' : ArS Int} {n' : Nat} {S' : Nat → Prop} (ht : Ar_6 B S' ab A' n' w') (hS : ∀ k, S' k → S k ∨ wr.heap.size ≤ k) (ho : Off S wr w') : AgR w0 B ab lv fv L F S' A' n' w' := by
  have hb := ho.below h.t.sB h.t.hB
  refine ⟨ht, h.bel.trans (hb.mono h.hw), owns_kept h.hl (fun g hg => ho.block g (own_lt7 h.hl hg) (h.lB g hg).2), owns_kept h.hf (fun g hg => ho.block g (own_lt7 h.hf hg) (h.fB g hg).2), fun g hg => ⟨(h.lB g hg).1, fun hc => ?_⟩, fun g hg => ⟨(h.fB g hg).1, fun hc => ?_⟩, h.ap, h.hw⟩
  · rcases hS g hc with e | e
    · exact (h.lB g hg).2 e
    · have := own_lt7 h.hl hg; omega
  · rcases hS g hc with e | e
    · exact (h.fB g hg).2 e
    · have := own_lt7 h.hf hg; omega
/-- Where the first list alone has turned. -/
theorem AgR.growL (h : AgR w0 B ab lv fv L F S A n wr) (ho : Off (fun k => lv.ownBlock = some k) wr w4) (hr : w4.ownsRow 0 3 1 lv' L'.length (fl natC L')) (ha : ∀ g, lv'.ownBlock = some g → lv.ownBlock = some g ∨ wr.heap.size ≤ g) :
    AgR w0 B ab lv' fv L' F (fun k => S k ∧ k < wr.heap.size) A n w4 := by
  have hB := h.t.hB
  have hb : Below B wr w4 := ho.below (fun k hk => (h.lB k hk).1) hB
  refine ⟨h.t.cutS.kept ho.size (fun k hk hS => ho.block k hk (fun e => (h.lB k e).2 hS.1)), h.bel.trans (hb.mono h.hw), hr, owns_kept h.hf (fun g hg => ho.block g (own_lt7 h.hf hg) (fun e => h.ap g e hg)), fun g hg => ?_, fun g hg => ⟨(h.fB g hg).1, fun hc => (h.fB g hg).2 hc.1⟩, fun g hg => ?_, h.hw⟩
  · rcases ha g hg with e | e
    · exact ⟨(h.lB g e).1, fun hc => (h.lB g e).2 hc.1⟩
    · exact ⟨by omega, fun hc => by have := hc.2; omega⟩
  · rcases ha g hg with e | e
    · exact h.ap g e
    · intro e2
      have := own_lt7 h.hf e2
      omega
/-- Where the second list alone has turned. -/
theorem AgR.growF (h : AgR w0 B ab lv fv L F S A n wr) (ho : Off (fun k => fv.ownBlock = some k) wr w4) (hr : w4.ownsRow 0 3 1 fv' F'.length (fl natC F')) (ha : ∀ g, fv'.ownBlock = some g → fv.ownBlock = some g ∨ wr.heap.size ≤ g) :
    AgR w0 B ab lv fv' L F' (fun k => S k ∧ k < wr.heap.size) A n w4 := by
  have hB := h.t.hB
  have hb : Below B wr w4 := ho.below (fun k hk => (h.fB k hk).1) hB
  refine ⟨h.t.cutS.kept ho.size (fun k hk hS => ho.block k hk (fun e => (h.fB k e).2 hS.1)), h.bel.trans (hb.mono h.hw), owns_kept h.hl (fun g hg => ho.block g (own_lt7 h.hl hg) (fun e => h.ap g hg e)), hr, fun g hg => ⟨(h.lB g hg).1, fun hc => (h.lB g hg).2 hc.1⟩, fun g hg => ?_, fun g hg => ?_, h.hw⟩
  · rcases ha g hg with e | e
    · exact ⟨(h.fB g e).1, fun hc => (h.fB g e).2 hc.1⟩
    · exact ⟨by omega, fun hc => by have := hc.2; omega⟩
  · intro e2
    rcases ha g e2 with e | e
    · exact h.ap g hg e
    · have := own_lt7 h.hl hg
      omega
/-- A number more behind a list. -/
theorem push_own {v : Value} {x g4 cap4 l : Nat} (hl : l = L.length) (ho : w4.ownsRow 0 3 1 (.slice (some ⟨g4, 0, none⟩) (l + 1) cap4) (l + 1) (fl natC L ++ [.int .i64 (x : Nat)])) (hG : (wr.alloc (.cells #[.int .i64 (x : Nat)] 3)).grownBy w4 v.ownBlock) (ha : v.ownBlock = some g4 ∨ g4 = wr.heap.size + 1) :
    Off (fun k => v.ownBlock = some k) wr w4 ∧ w4.ownsRow 0 3 1 (.slice (some ⟨g4, 0, none⟩) (l + 1) cap4) (L ++ [x]).length (fl natC (L ++ [x])) ∧ ∀ g, (Value.slice (some ⟨g4, 0, none⟩) (l + 1) cap4).ownBlock = some g → v.ownBlock = some g ∨ wr.heap.size ≤ g := by
  subst hl
  have hbA := (Below.refl wr.heap.size wr).alloc (Nat.le_refl _) (.cells #[.int .i64 (x : Nat)] 3)
  refine ⟨(Off.of_below hbA).seq (Off.of_grown hG (fun g hg => hg)), ?_, fun g hg => ?_⟩
  · rw [List.length_append, fl_app, fl_one]; exact ho
  · cases hg
    rcases ha with e | e
    · exact .inl e
    · right; show wr.heap.size ≤ g4; omega
theorem AgR.pushL (h : AgR w0 B ab lv fv L F S A n wr) {x g4 cap4 l : Nat} (hl : l = L.length) (ho : w4.ownsRow 0 3 1 (.slice (some ⟨g4, 0, none⟩) (l + 1) cap4) (l + 1) (fl natC L ++ [.int .i64 (x : Nat)])) (hG : (wr.alloc (.cells #[.int .i64 (x : Nat)] 3)).grownBy w4 lv.ownBlock) (ha : lv.ownBlock = some g4 ∨ g4 = wr.heap.size + 1) :
    AgR w0 B ab (.slice (some ⟨g4, 0, none⟩) (l + 1) cap4) fv (L ++ [x]) F (fun k => S k ∧ k < wr.heap.size) A n w4 := by
  obtain ⟨q1, q2, q3⟩ := push_own hl ho hG ha
  exact h.growL q1 q2 q3
theorem AgR.pushF (h : AgR w0 B ab lv fv L F S A n wr) {x g4 cap4 l : Nat} (hl : l = F.length) (ho : w4.ownsRow 0 3 1 (.slice (some ⟨g4, 0, none⟩) (l + 1) cap4) (l + 1) (fl natC F ++ [.int .i64 (x : Nat)])) (hG : (wr.alloc (.cells #[.int .i64 (x : Nat)] 3)).grownBy w4 fv.ownBlock) (ha : fv.ownBlock = some g4 ∨ g4 = wr.heap.size + 1) :
    AgR w0 B ab lv (.slice (some ⟨g4, 0, none⟩) (l + 1) cap4) L (F ++ [x]) (fun k => S k ∧ k < wr.heap.size) A n w4 := by
  obtain ⟨q1, q2, q3⟩ := push_own hl ho hG ha
  exact h.growF q1 q2 q3
/-- Take, Free. -/
theorem AgR.take (h : AgR w0 B ab lv fv L F S A n wr) (hn : n ≤ 1000000) (x : Int) {i : Nat} (hi : A.fresh = i) :
    Calls Try.prog 10 #[.pointer (some ⟨ab, 0, none⟩), .int .i64 x] wr fun e w' => e = .returned (.int .i64 (i : Nat)) ∧ (∃ S', AgR w0 B ab lv fv L F S' (A.take x) (n + 1) w') ∧ Off S wr w' :=
  (take_6 x h.t hn).mono fun e w' ⟨q1, q2, q3⟩ => ⟨by rw [q1, hi], ⟨_, h.off q2 (fun k hk => hk) q3⟩, q3⟩
theorem AgR.free (h : AgR w0 B ab lv fv L F S A n wr) (hn : n ≤ 1000000) {k : Nat} {x : Int} (hx : A.at_ k = some x) :
    Calls Try.prog 12 #[.pointer (some ⟨ab, 0, none⟩), .int .i64 (k : Nat)] wr fun e w' => e = .returned (.int .i64 0) ∧ (∃ S', AgR w0 B ab lv fv L F S' (A.out k) (n + 1) w') ∧ Off S wr w' :=
  (free_yes_6 h.t hn hx).mono fun e w' ⟨q1, q2, q3⟩ => ⟨q1, ⟨_, h.off q2 (fun k hk => hk) q3⟩, q3⟩
end

/-! ### plain data of ArenaAgain -/
/-- n things taken, one behind the other. -/
def upA (k : Nat) : ArS Int := ⟨(List.range k).map fun i : Nat => some (i : Int), []⟩
theorem upA_fresh (k : Nat) : (upA k).fresh = k := by simp [upA, ArS.fresh]
theorem upA_take (k : Nat) : (upA k).take (k : Nat) = upA (k + 1) := by simp [upA, ArS.take, List.range_succ]
theorem upA_zero : upA 0 = newA := rfl
/-- Some are freed, the others left. -/
structure AgP (n : Nat) (A : ArS Int) (L F : List Nat) : Prop where
  free : A.free = F
  ps : A.ps.length = n
  left : ∀ j ∈ L, ∃ x, A.at_ j = some x
  nd : L.Nodup
  len : L.length + F.length = n
theorem agp_first (n : Nat) : AgP n (upA n) (List.range n) [] :=
  ⟨rfl, by simp [upA], fun j hj => ⟨(j : Int), by
    have := List.mem_range.1 hj
    simp [upA, ArS.at_, this]⟩, List.nodup_range, by simp⟩
theorem AgP.step {n : Nat} {A : ArS Int} {L F : List Nat} (h : AgP n A L F) {k : Nat} (hk : k < L.length) : AgP n (A.out L[k]) (L.take k ++ L.drop (k + 1)) (F ++ [L[k]]) := by
  have e : L = L.take k ++ L[k] :: L.drop (k + 1) := by rw [← List.drop_eq_getElem_cons hk, List.take_append_drop]
  have hnd := h.nd
  rw [e] at hnd
  obtain ⟨n1, n2, n3⟩ := List.nodup_append.1 hnd
  obtain ⟨n4, n5⟩ := List.nodup_cons.1 n2
  refine ⟨by rw [← h.free]; rfl, by rw [← h.ps]; simp [ArS.out], fun j hj => ?_, ?_, ?_⟩
  · rw [at_out]
    have hm : j ∈ L ∧ j ≠ L[k] := by
      rcases List.mem_append.1 hj with hj | hj
      · exact ⟨List.mem_of_mem_take hj, fun e2 => n3 j hj L[k] List.mem_cons_self e2⟩
      · exact ⟨List.mem_of_mem_drop hj, fun e2 => n4 (e2 ▸ hj)⟩
    rw [if_neg hm.2]
    exact h.left j hm.1
  · exact List.nodup_append.2 ⟨n1, n5, fun a ha b hb => n3 a ha b (List.mem_cons_of_mem _ hb)⟩
  · have := h.len
    rw [List.length_append, List.length_append, List.length_take, List.length_drop, List.length_singleton]
    omega
theorem AgP.gone {n : Nat} {A : ArS Int} {L F : List Nat} (h : AgP n A L F) (i : Nat) : (A.out i).has (i : Nat) = false := by
  rw [has_nat, at_out, if_pos rfl]; rfl
/-- All are taken again. -/
structure AgQ (n : Nat) (A : ArS Int) (F : List Nat) (k : Nat) : Prop where
  free : A.free = F.take (n - k)
  ps : A.ps.length = n
theorem AgQ.fresh {n : Nat} {A : ArS Int} {F : List Nat} {k : Nat} (h : AgQ n A F k) (hk : k < n) (hF : F.length = n) : A.fresh = F[n - 1 - k]'(by omega) := by
  unfold ArS.fresh
  have e : A.free.getLast? = some (F[n - 1 - k]'(by omega)) := by
    rw [h.free, List.getLast?_eq_getElem?, List.length_take, List.getElem?_take, if_pos (by omega), show min (n - k) F.length - 1 = n - 1 - k by omega, List.getElem?_eq_getElem]
  rw [e]
theorem AgQ.step {n : Nat} {A : ArS Int} {F : List Nat} {k : Nat} (h : AgQ n A F k) (hk : k < n) (hF : F.length = n) (x : Int) : AgQ n (A.take x) F (k + 1) := by
  have e : A.free.getLast? = some (F[n - 1 - k]'(by omega)) := by
    rw [h.free, List.getLast?_eq_getElem?, List.length_take, List.getElem?_take, if_pos (by omega), show min (n - k) F.length - 1 = n - 1 - k by omega, List.getElem?_eq_getElem]
  unfold ArS.take
  rw [e]
  refine ⟨?_, by simpa using h.ps⟩
  show A.free.dropLast = _
  rw [h.free, List.dropLast_eq_take, List.length_take, List.take_take]
  congr 1
  omega
theorem AgP.again {n : Nat} {A : ArS Int} {F : List Nat} (h : AgP n A [] F) : AgQ n A F 0 ∧ F.length = n := by
  have := h.len
  simp at this
  exact ⟨⟨by rw [h.free, Nat.sub_zero, List.take_of_length_le (by omega)], h.ps⟩, this⟩
end Go.Proofs.Yteilhjkkgdgbkaa
