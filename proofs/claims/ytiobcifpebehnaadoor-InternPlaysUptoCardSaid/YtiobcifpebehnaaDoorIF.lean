
import Derived.Test.YtiobcifpebehnaaDoorA18
import Derived.Test.YtiobcifpebehnaaDoorIE
import Derived.Test.YtiobcifpebehnaaDoorS16
/- I22 -/
/- I22: rows of whatever came in; slices of slices -/
namespace Go.Proofs.YtiobcifpebehnaaDoor
open Go.RowKit Go.ChangeShapes Go.WideShapes Go.Deep
set_option linter.unusedVariables false

section
variable {H : Type} {enc : TypeId × Value → H} {w : World} {base : Nat} {spare : Nat → Bool} {held : Bool}
/-- A slice that came in, whatever its elements are. -/
theorem open_rowC {α : Type} (C : Cel α) (P : α → Prop) {t e : TypeId} (ht : Tryd.prog.underlying t = some (.slice e)) (hce : Tryd.prog.cellsOf e = C.m)
    (hel : ∀ (n : Nat) (cs : List Value) (y : DataW H × List MemPlace), DataW.trod enc Tryd.prog w base spare held n e cs = some y → ∃ x, P x ∧ cs = C.c x)
    {n : Nat} {v : Value} {x : DataW H × List MemPlace} (h : DataW.trod enc Tryd.prog w base spare held n t [v] = some x) : ∃ xs, Row C w v xs ∧ ∀ a ∈ xs, P a := by
  rcases open_slice ht h with ⟨hcs, -⟩ | ⟨a, len, cap, m, n', D, Pl, hcs, -, hl, hm, hmm, -, hi⟩
  · injection hcs with hv _
    subst hv
    exact ⟨[], Row.nil w, by simp⟩
  · injection hcs with hv _
    subst hv
    have hlm : len ≤ m := by rw [hmm]; split <;> omega
    have hex : ∀ i : Fin len, ∃ k : α, P k ∧ ∀ j u, (C.c k)[j]? = some u → w.cell? (a.add (i.1 * C.m + j)) = some u := by
      rintro ⟨i, hil⟩
      obtain ⟨cs', hc, ht⟩ := hi i (by omega)
      obtain ⟨k, hw, rfl⟩ := hel _ _ _ ht
      rw [hce] at hc
      obtain ⟨-, hcl, hat⟩ := World.cells?_some hc
      refine ⟨k, hw, fun j u hu => ?_⟩
      have hj : j < C.m := by have := (List.getElem?_eq_some_iff.1 hu).1; rwa [C.len] at this
      have := hat j hj
      rw [hu, add_add] at this
      exact this
    obtain ⟨f, hf⟩ := Classical.axiomOfChoice hex
    have hlen : (List.ofFn f).length = len := by simp
    refine ⟨List.ofFn f, ?_, fun k hk => ?_⟩
    · by_cases h0 : len = 0
      · subst h0
        exact .inl ⟨some a, cap, rfl, by simp, hm, by simp⟩
      · obtain ⟨b, off, spot⟩ := a
        have hp : 0 < (C.c (f ⟨0, by omega⟩)).length := by rw [C.len]; exact C.pos
        have hspot : spot = none := by
          have := (hf ⟨0, by omega⟩).2 0 _ (List.getElem?_eq_getElem hp)
          simpa [Addr.add] using World.cell?_spot this
        subst hspot
        refine .inr ⟨b, off, cap, by rw [hlen], by omega, by omega, hm, fun j u hu => ?_⟩
        have hjl : j < len * C.m := by
          have := (List.getElem?_eq_some_iff.1 hu).1
          rwa [fl_len, hlen] at this
        have e1 : j / C.m * C.m + j % C.m = j := by rw [Nat.mul_comm]; exact Nat.div_add_mod j C.m
        have hd : j / C.m < len := by rw [Nat.div_lt_iff_lt_mul C.pos]; exact hjl
        have g := fl_get C (List.ofFn f) (j / C.m) (j % C.m) (by omega) (Nat.mod_lt _ C.pos)
        rw [e1, hu] at g
        have := (hf ⟨j / C.m, hd⟩).2 (j % C.m) u (by rw [g]; simp)
        rw [e1, Go.WideShapes.add_plain] at this
        exact this
    · obtain ⟨i, rfl⟩ := List.mem_ofFn.1 hk
      exact (hf i).1
end

/-- A slice in a cell. -/
structure SV where
  a : Option Addr
  l : Nat
  c : Nat
@[reducible] def SV.v (x : SV) : Value := .slice x.a x.l x.c
def svC : Cel SV := ⟨fun x => [x.v], 1, fun _ => rfl, fun x u hu => by obtain rfl := List.mem_singleton.1 hu; rfl, by decide⟩
/-- A slice of slices of attributes that reads as ls. -/
def Nrow (w : World) (v : Value) (ls : List (List Att)) : Prop := ∃ (ss : List SV) (f : SV → List Att), Row svC w v ss ∧ ls = ss.map f ∧ ∀ x ∈ ss, Arow w x.v (f x)
theorem Nrow.shape {w : World} {v : Value} {ls : List (List Att)} (h : Nrow w v ls) : ∃ a cap, v = .slice a ls.length cap := by
  obtain ⟨ss, f, h1, rfl, -⟩ := h
  obtain ⟨a, cap, rfl⟩ := h1.shape
  exact ⟨a, cap, by simp⟩
theorem Nrow.len {w : World} {v : Value} {ls : List (List Att)} (h : Nrow w v ls) : ls.length ≤ 9223372036854775807 := by
  obtain ⟨ss, f, h1, rfl, -⟩ := h
  have := h1.len
  simpa using this
theorem Nrow.below {B : Nat} {w w' : World} {v : Value} {ls : List (List Att)} (h : Nrow w v ls) (hb : Below B w w') (hB : w.heap.size ≤ B) : Nrow w' v ls := by
  obtain ⟨ss, f, h1, h2, h3⟩ := h
  exact ⟨ss, f, h1.below hb hB, h2, fun x hx => (h3 x hx).below hb hB⟩
theorem Nrow.opn {w : World} {a : Option Addr} {n cap : Nat} {ls : List (List Att)} (h : Nrow w (.slice a n cap) ls) (h0 : 0 < ls.length) :
    ∃ b off, a = some ⟨b, off, none⟩ ∧ n = ls.length ∧ ls.length ≤ cap ∧ cap ≤ maxLen ∧ b < w.heap.size ∧ (∀ j (hj : j < ls.length), ∃ xa xc, w.cell? ⟨b, off + j, none⟩ = some (.slice xa ls[j].length xc) ∧ Arow w (.slice xa ls[j].length xc) ls[j]) := by
  obtain ⟨ss, f, h1, rfl, h3⟩ := h
  rw [List.length_map] at h0
  obtain ⟨b, off, ha, hn, hc, hm, hb, hat, -⟩ := Row.opened h1 h0
  refine ⟨b, off, ha, by rw [List.length_map]; exact hn, by rw [List.length_map]; exact hc, hm, hb, fun j hj => ?_⟩
  have hj' : j < ss.length := by simpa using hj
  have hr := h3 ss[j] (List.getElem_mem hj')
  have hcell := hat j hj' 0 _ rfl
  rw [show j * svC.m = j from Nat.mul_one j, Nat.add_zero] at hcell
  rw [List.getElem_map]
  obtain ⟨xa, xc, e⟩ := hr.shape
  rw [e] at hr hcell
  exact ⟨xa, xc, hcell, hr⟩

section
variable {H : Type} {enc : TypeId × Value → H} {w : World} {base : Nat} {spare : Nat → Bool} {held : Bool}
theorem slice_cells7 : Tryd.prog.cellsOf 37 = 1 := by kernel_rfl
theorem open_nest {n : Nat} {v : Value} {x : DataW H × List MemPlace} (h : DataW.trod enc Tryd.prog w base spare held n 33 [v] = some x) : ∃ ls : List (List Att), Nrow w v ls ∧ ∀ l ∈ ls, ∀ a ∈ l, AttW a := by
  obtain ⟨ss, h1, h2⟩ := open_rowC svC (fun x : SV => ∃ xs, Arow w x.v xs ∧ ∀ a ∈ xs, AttW a) Tryd.underlying33 slice_cells7 (fun n cs y hy => by
    have hv : ∃ u : Value, cs = [u] := by
      rcases open_slice Tryd.underlying37 hy with ⟨hcs, -⟩ | ⟨a, len, cap, m, n', D, Pl, hcs, -⟩
      · exact ⟨_, hcs⟩
      · exact ⟨_, hcs⟩
    obtain ⟨u, rfl⟩ := hv
    obtain ⟨xs, q1, q2⟩ := open_atts hy
    obtain ⟨a, cap, rfl⟩ := q1.shape
    exact ⟨⟨a, xs.length, cap⟩, ⟨xs, q1, q2⟩, rfl⟩) h
  have hch : ∀ x : SV, ∃ xs : List Att, x ∈ ss → Arow w x.v xs ∧ ∀ a ∈ xs, AttW a := fun x => by
    by_cases hx : x ∈ ss
    · obtain ⟨xs, q⟩ := h2 x hx
      exact ⟨xs, fun _ => q⟩
    · exact ⟨[], fun hc => absurd hc hx⟩
  obtain ⟨f, hf⟩ := Classical.axiomOfChoice hch
  refine ⟨ss.map f, ⟨ss, f, h1, rfl, fun x hx => (hf x hx).1⟩, fun l hl => ?_⟩
  obtain ⟨x, hx, rfl⟩ := List.mem_map.1 hl
  exact (hf x hx).2
end
end Go.Proofs.YtiobcifpebehnaaDoor

/- I23 -/
/- I23: InternStays -/
namespace Go.Proofs.YtiobcifpebehnaaDoor
open Go.RowKit
set_option linter.unusedVariables false

theorem ks_add (T : TabS) (x : List Att) : (T.add x).ks = T.ks := by
  unfold TabS.add
  split
  · rfl
  · exact ks_ins T x
theorem ks_less (T : TabS) (i : Nat) : (T.less i).ks = T.ks := by
  unfold TabS.less
  split <;> rfl
/-- A set that is held. -/
structure KeepT (ks : List Key) (id : Nat) (X : List Att) (T : TabS) : Prop where
  live : T.live id
  set : T.set id = X
  one : 1 ≤ T.times id
  ks : T.ks = ks
theorem add_live {T : TabS} (h : T.Ok) (x : List Att) : (T.add x).live (T.idOf x) := by
  unfold TabS.add TabS.idOf
  cases hl : T.look x with
  | some i =>
    obtain ⟨l1, -, -⟩ := look_some hl
    exact (ok_upd h l1 (.inr (Nat.succ_pos _))).2.1 i |>.2 l1
  | none => exact (live_ins h x _).2 (.inr rfl)
theorem keep_add {ks : List Key} {id : Nat} {X : List Att} {T : TabS} (h : T.Ok) (hk : KeepT ks id X T) (x : List Att) : KeepT ks id X (T.add x) ∧ (T.idOf x = id → 2 ≤ (T.add x).times id) := by
  have hks := ks_add T x
  unfold TabS.add at hks ⊢
  unfold TabS.idOf
  cases hl : T.look x with
  | some i =>
    obtain ⟨l1, -, l3⟩ := look_some hl
    obtain ⟨-, k2, k3⟩ := ok_upd h l1 (n := T.times i + 1) (.inr (Nat.succ_pos _))
    have ht : (T.bump i).times id = if id = i then T.times i + 1 else T.times id := by
      unfold TabS.bump
      rw [times_upd]
      by_cases e : id = i
      · rw [if_pos ⟨e, l3⟩, if_pos e]
      · rw [if_neg (fun hc => e hc.1), if_neg e]
    refine ⟨⟨(k2 id).2 hk.live, (k3 id).trans hk.set, ?_, hk.ks⟩, fun e => ?_⟩
    · show 1 ≤ (T.bump i).times id
      rw [ht]; split
      · omega
      · exact hk.one
    · show 2 ≤ (T.bump i).times id
      have e' : i = id := e
      rw [ht, if_pos e'.symm, e']
      have := hk.one
      omega
  | none =>
    have hne : id ≠ T.fresh := fun e => (fresh_facts h).2 (e ▸ hk.live)
    refine ⟨⟨(live_ins h x id).2 (.inl hk.live), ?_, ?_, (ks_ins T x).trans hk.ks⟩, fun e => absurd e.symm hne⟩
    · show (T.ins x).set id = X
      rw [set_ins h, if_neg hne]; exact hk.set
    · show 1 ≤ (T.ins x).times id
      rw [times_ins h, if_neg hne]; exact hk.one
theorem keep_less {ks : List Key} {id : Nat} {X : List Att} {T : TabS} (h : T.Ok) (hk : KeepT ks id X T) {k : Nat} (hl : T.live k) (h2 : k = id → 2 ≤ T.times id) : KeepT ks id X (T.less k) := by
  by_cases hc : k ≠ 0 ∧ T.times k = 1
  · rw [less_out hc.1 hc.2]
    have hne : id ≠ k := fun e => by have := h2 e.symm; rw [e] at this; omega
    exact ⟨(live_out hc.1 id).2 ⟨hk.live, hne⟩, by rw [set_out, if_neg hne]; exact hk.set, by rw [times_out, if_neg hne]; exact hk.one, hk.ks⟩
  · rw [less_upd hc]
    have hq : k = 0 ∨ 0 < T.times k - 1 := by
      rcases Nat.eq_zero_or_pos k with e | e
      · exact .inl e
      · rcases hl with e2 | ⟨-, e2⟩
        · exact .inl e2
        · right
          have : T.times k ≠ 1 := fun e3 => hc ⟨by omega, e3⟩
          omega
    obtain ⟨-, k2, k3⟩ := ok_upd h hl hq
    refine ⟨(k2 id).2 hk.live, (k3 id).trans hk.set, ?_, hk.ks⟩
    rw [times_upd]
    split
    · rename_i e
      have := h2 e.1.symm
      rw [e.1] at this
      show 1 ≤ T.times k - 1
      omega
    · exact hk.one
theorem keep_first {ks : List Key} {T : TabS} (h : T.Ok) (hks : T.ks = ks) (x : List Att) : KeepT ks (T.idOf x) x (T.add x) := by
  have hl := add_live h x
  refine ⟨hl, ?_, ?_, (ks_add T x).trans hks⟩
  · unfold TabS.add TabS.idOf
    cases hf : T.look x with
    | some i =>
      obtain ⟨l1, l2, -⟩ := look_some hf
      exact ((ok_upd h l1 (n := T.times i + 1) (.inr (Nat.succ_pos _))).2.2 i).trans l2
    | none =>
      show (T.ins x).set T.fresh = x
      rw [set_ins h, if_pos rfl]
  · unfold TabS.add TabS.idOf
    cases hf : T.look x with
    | some i =>
      obtain ⟨l1, -, l3⟩ := look_some hf
      show 1 ≤ (T.upd i ⟨T.set i, T.times i + 1⟩).times i
      rw [times_upd, if_pos ⟨rfl, l3⟩]
      exact Nat.succ_le_succ (Nat.zero_le _)
    | none =>
      show 1 ≤ (T.ins x).times T.fresh
      rw [times_ins h, if_pos rfl]
      exact Nat.le_refl _
theorem keep_id {ks : List Key} {id : Nat} {X : List Att} {T : TabS} (h : T.Ok) (hk : KeepT ks id X T) : T.idOf X = id := by
  unfold TabS.idOf
  rw [← hk.set, look_live h hk.live]
end Go.Proofs.YtiobcifpebehnaaDoor
