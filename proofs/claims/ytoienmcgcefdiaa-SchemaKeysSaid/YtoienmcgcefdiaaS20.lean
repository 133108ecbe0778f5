
import Derived.Test.YtoienmcgcefdiaaS18
import Derived.Test.YtoienmcgcefdiaaS11
import Derived.Test.YtoienmcgcefdiaaS10
/- S22: words for SchemaKeys -/
namespace Go.Proofs.Ytoienmcgcefdiaa
open Go.RowKit
set_option linter.unusedVariables false

/-- append(out, src...): out the call's own, src whatever slice of keys, nil too. -/
theorem wpList_append_keys {P : Program} {w : World} {ops : Array Oper} {rest : List Oper} {o : Oper} {a : Act} {Q : Exit → Act → World → Prop} (hgd : o.guard = none) (s x : Operand) (t : TypeId)
    (ho : o.op = .call { callee := .builtin .append, args := #[s, x], argTypes := #[t, t] })
    (base : Nat) (e : TypeId) (i : TypeInfo) (z : Value) (bytes : Nat) (ht : P.underlying t = some (.slice e)) (hi : P.info? e = some i) (hz : i.zero = some z)
    (hsize : i.size = 6) (hby : i.bytes = bytes) (hzs : z.cells.size = 6)
    (v : Value) (n : Nat) (cs : List Value) (hs : a.eval s = v) (hown : w.ownsRow base e 6 v n cs)
    (u : Value) (ks : List Key) (hx : a.eval x = u) (hu : Krow w u ks)
    (h63 : n + ks.length ≤ maxLen) (hbytes : (n + ks.length) * bytes ≤ 140737488355328) (hbase : base ≤ w.heap.size)
    (h : ∀ v' w', w'.ownsRow base e 6 v' (n + ks.length) (cs ++ flat ks) → w.grownBy w' v.ownBlock → wpList P ops Q rest (a.put o.dst v') w') : wpList P ops Q (o :: rest) a w := by
  rcases hu with ⟨ad, cap, rfl, rfl, hm, hc0⟩ | ⟨b, off, cap, rfl, h0, h1, hm, hc⟩
  · cases ad with
    | none =>
      obtain rfl := hc0 rfl
      exact wpList_append_own_none hgd s x t ho base e i 6 ht hi v n cs hs hown hx (h v w (by simpa [flat_nil] using hown) (grown_refl _ _))
    | some ad =>
      exact wpList_append_own w hgd s x t ho base e i z 6 bytes ht hi hz hsize hby hzs (by decide) v n cs hs hown ad 0 cap [] hx rfl (by intro j u hj; simp at hj) (by intro u hu; cases hu) h63 hbytes hbase (fun v' w' q1 q2 _ => h v' w' (by simpa [flat_nil] using q1) q2)
  · refine wpList_append_own w hgd s x t ho base e i z 6 bytes ht hi hz hsize hby hzs (by decide) v n cs hs hown ⟨b, off, none⟩ ks.length cap (flat ks) hx (flat_len ks) ?_ (flat_one_cells ks) h63 hbytes hbase (fun v' w' q1 q2 _ => h v' w' q1 q2)
    intro j u hj
    rw [Go.WideShapes.add_plain]
    exact hc j u hj

/-- The copy that was handed in, its numbers written over up to now. -/
def IdRel (W : World) (g cap n : Nat) (wr : World) : Prop :=
  ∃ xs, wr.ownsRow g 32 6 (.slice (some ⟨g, 0, none⟩) n cap) n xs ∧ (∀ i, i < n → ∃ z, xs[i * 6]? = some (.int .i64 z)) ∧ Below g W wr ∧ W.grownBy wr (some g)
theorem id_init {W : World} {B g cap n : Nat} {ks : List Key} (h : W.ownsRow B 32 6 (.slice (some ⟨g, 0, none⟩) n cap) n (flat ks)) (hn : n = ks.length) : IdRel W g cap n W := by
  subst hn
  refine ⟨flat ks, ⟨h.1, ?_⟩, fun i hi => ⟨ks[i].id, ?_⟩, Below.refl _ _, grown_refl _ _⟩
  · rcases h.2 with hn | ⟨g', cap', cur, hv, hB, rest⟩
    · exact .inl hn
    · injection hv with e1 e2 e3
      injection e1 with e1
      injection e1 with e1
      subst e1 e3
      exact .inr ⟨g, cap, cur, rfl, Nat.le_refl _, rest⟩
  · have := flat_get ks i 0 hi (by omega)
    rw [Nat.add_zero] at this
    rw [this]
    rfl
theorem id_open {W wr : World} {g cap n i : Nat} (h : IdRel W g cap n wr) (hi : i < n) : ∃ z, wr.cell? ⟨g, i * 6, none⟩ = some (.int .i64 z) ∧ wr.frozen? ⟨g, i * 6, none⟩ = false := by
  obtain ⟨xs, ho, hx, hb, -⟩ := h
  obtain ⟨z, hz⟩ := hx i hi
  exact ⟨z, by rw [ho.cellAt (i * 6) (by omega), hz], ho.frozenAt _⟩
theorem id_step {W wr : World} {g cap n i : Nat} (h : IdRel W g cap n wr) (hi : i < n) (y : Int) : IdRel W g cap n (wr.setCell ⟨g, i * 6, none⟩ (.int .i64 y)) := by
  obtain ⟨xs, ho, hx, hb, hgr⟩ := h
  refine ⟨_, (ho.stored (i * 6) _).1, fun t ht => ?_, hb.setCell (Nat.le_refl _) _, ?_⟩
  rotate_left
  · have h2 := (ho.stored (i * 6) (.int .i64 y)).2
    exact ⟨h2.os.trans hgr.os, h2.tape.trans hgr.tape, h2.output.trans hgr.output, Nat.le_trans hgr.size h2.size, fun q hq hne => (h2.block q (Nat.lt_of_lt_of_le hq hgr.size) hne).trans (hgr.block q hq hne)⟩
  by_cases e : t = i
  · subst e
    obtain ⟨z, hz⟩ := hx t ht
    have hl : t * 6 < xs.length := (List.getElem?_eq_some_iff.1 hz).1
    exact ⟨y, by rw [List.getElem?_set, if_pos rfl]; simp [hl]⟩
  · obtain ⟨z, hz⟩ := hx t ht
    exact ⟨z, by rw [List.getElem?_set, if_neg (by omega)]; exact hz⟩

/-- A schema stays while the copy that was handed in is written over. -/
theorem Sch.grown {w w' : World} {p : Value} {ks : List Key} {B g cap n : Nat} {xs : List Value} (h : Sch w p ks) (hg : w.grownBy w' (some g)) (ho : w.ownsRow B 32 6 (.slice (some ⟨g, 0, none⟩) n cap) n xs) (h0 : 0 < n) {z : Int} (hz : xs[0]? = some (.int .i64 z)) : Sch w' p ks := by
  have hcg : w.cell? ⟨g, 0, none⟩ = some (.int .i64 z) := by rw [ho.cellAt 0 (by omega), hz]
  obtain ⟨hgood, h⟩ := h
  have hs : ∀ s m, w.cell? ⟨s, 0, none⟩ = some (.map m) → w'.cell? ⟨s, 0, none⟩ = some (.map m) := fun s m hc => by
    refine (World.cell?_of_block (a := ⟨s, 0, none⟩) (hg.block s (World.block_lt_of_cell? w _ hc) (fun e => ?_))).trans hc
    injection e with e
    subst e
    rw [hcg] at hc
    cases hc
  refine ⟨hgood, ?_⟩
  rcases h with h | ⟨s, rfl, hc, rfl⟩ | ⟨s, b, rfl, hc, hown⟩
  · exact .inl h
  · exact .inr (.inl ⟨s, rfl, hs s _ hc, rfl⟩)
  · refine .inr (.inr ⟨s, b, rfl, hs s _ hc, hown.kept hg (fun e => ?_)⟩)
    injection e with e
    subst e
    obtain ⟨es, clock, hb, -⟩ := hown
    simp [World.cell?, hb] at hcg

/-- The keys that were told, written over up to now: from the i-th on they stand as they were told. -/
def KindRel (W : World) (g cap : Nat) (rs : List Key) (i : Nat) (wr : World) : Prop :=
  ∃ xs, wr.ownsRow g 32 6 (.slice (some ⟨g, 0, none⟩) rs.length cap) rs.length xs ∧ (∀ t, i * 6 ≤ t → xs[t]? = (flat rs)[t]?) ∧ Below g W wr
theorem own_at {w : World} {B g cap n size : Nat} {e : TypeId} {xs : List Value} (h : w.ownsRow B e size (.slice (some ⟨g, 0, none⟩) n cap) n xs) : w.ownsRow g e size (.slice (some ⟨g, 0, none⟩) n cap) n xs := by
  refine ⟨h.1, ?_⟩
  rcases h.2 with hn | ⟨g', cap', cur, hv, hB, rest⟩
  · exact .inl hn
  · injection hv with e1 e2 e3
    injection e1 with e1
    injection e1 with e1
    subst e1 e3
    exact .inr ⟨g, cap, cur, rfl, Nat.le_refl _, rest⟩
theorem kind_init {W wr : World} {B g cap : Nat} {rs : List Key} (h : wr.ownsRow B 32 6 (.slice (some ⟨g, 0, none⟩) rs.length cap) rs.length (flat rs)) (hb : Below g W wr) : KindRel W g cap rs 0 wr :=
  ⟨flat rs, own_at h, fun _ _ => rfl, hb⟩
theorem kind_open {W wr : World} {g cap i : Nat} {rs : List Key} (h : KindRel W g cap rs i wr) (hi : i < rs.length) : KAt g (i * 6) rs[i] wr ∧ wr.frozen? ⟨g, i * 6 + 2, none⟩ = false := by
  obtain ⟨xs, ho, hx, hb⟩ := h
  have hc : ∀ c, c < 6 → ∀ u, (kc rs[i])[c]? = some u → wr.cell? ⟨g, i * 6 + c, none⟩ = some u := fun c hc u hu => by
    rw [ho.cellAt (i * 6 + c) (by omega), hx (i * 6 + c) (by omega), flat_get rs i c hi hc, hu]
  exact ⟨⟨hc 0 (by omega) _ rfl, hc 1 (by omega) _ rfl, hc 2 (by omega) _ rfl, hc 3 (by omega) _ rfl, hc 4 (by omega) _ rfl, hc 5 (by omega) _ rfl⟩, ho.frozenAt _⟩
theorem kind_drew {W wr : World} {g cap i : Nat} {rs : List Key} (h : KindRel W g cap rs i wr) (n : Nat) : KindRel W g cap rs i (wr.drewN n) := by
  obtain ⟨xs, ho, hx, hb⟩ := h
  exact ⟨xs, owns_below ho (blw_drewN (Below.refl _ _) n), hx, blw_drewN hb n⟩
theorem kind_step {W wr : World} {g cap i : Nat} {rs : List Key} (h : KindRel W g cap rs i wr) (y : Int) : KindRel W g cap rs (i + 1) (wr.setCell ⟨g, i * 6 + 2, none⟩ (.int .u8 y)) := by
  obtain ⟨xs, ho, hx, hb⟩ := h
  refine ⟨_, (ho.stored (i * 6 + 2) _).1, fun t ht => ?_, hb.setCell (Nat.le_refl _) _⟩
  rw [List.getElem?_set, if_neg (by omega)]
  exact hx t (by omega)

/-- The group that was told, written over up to now. -/
def NumRel (W : World) (g cap : Nat) (xs : List Int) (i : Nat) (wr : World) : Prop :=
  ∃ cs, wr.ownsRow g 3 1 (.slice (some ⟨g, 0, none⟩) xs.length cap) xs.length cs ∧ (∀ t, i ≤ t → cs[t]? = (xs.map (Value.int .i64))[t]?) ∧ Below g W wr ∧ W.grownBy wr (some g)
theorem num_init {W : World} {B g cap : Nat} {xs : List Int} (h : W.ownsRow B 3 1 (.slice (some ⟨g, 0, none⟩) xs.length cap) xs.length (xs.map (Value.int .i64))) : NumRel W g cap xs 0 W :=
  ⟨_, own_at h, fun _ _ => rfl, Below.refl _ _, grown_refl _ _⟩
theorem num_open {W wr : World} {g cap i : Nat} {xs : List Int} (h : NumRel W g cap xs i wr) (hi : i < xs.length) : wr.cell? ⟨g, i, none⟩ = some (.int .i64 (xs.getD i 0)) ∧ wr.frozen? ⟨g, i, none⟩ = false := by
  obtain ⟨cs, ho, hx, hb, -⟩ := h
  refine ⟨?_, ho.frozenAt _⟩
  rw [ho.cellAt i (by omega), hx i (Nat.le_refl _)]
  simp [List.getD, hi]
theorem num_drew {W wr : World} {g cap i : Nat} {xs : List Int} (h : NumRel W g cap xs i wr) (n : Nat) : NumRel W g cap xs i (wr.drewN n) := by
  obtain ⟨cs, ho, hx, hb, hgr⟩ := h
  exact ⟨cs, owns_below ho (blw_drewN (Below.refl _ _) n), hx, blw_drewN hb n, hgr.os, hgr.tape, hgr.output, hgr.size, hgr.block⟩
theorem num_step {W wr : World} {g cap i : Nat} {xs : List Int} (h : NumRel W g cap xs i wr) (y : Int) : NumRel W g cap xs (i + 1) (wr.setCell ⟨g, i, none⟩ (.int .i64 y)) := by
  obtain ⟨cs, ho, hx, hb, hgr⟩ := h
  refine ⟨_, (ho.stored i _).1, fun t ht => ?_, hb.setCell (Nat.le_refl _) _, ?_⟩
  rotate_left
  · have h2 := (ho.stored i (.int .i64 y)).2
    exact ⟨h2.os.trans hgr.os, h2.tape.trans hgr.tape, h2.output.trans hgr.output, Nat.le_trans hgr.size h2.size, fun q hq hne => (h2.block q (Nat.lt_of_lt_of_le hq hgr.size) hne).trans (hgr.block q hq hne)⟩
  rw [List.getElem?_set, if_neg (by omega)]
  exact hx t (by omega)
end Go.Proofs.Ytoienmcgcefdiaa
