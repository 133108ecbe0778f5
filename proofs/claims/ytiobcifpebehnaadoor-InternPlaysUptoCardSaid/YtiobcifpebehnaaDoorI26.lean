
import Derived.Test.YtiobcifpebehnaaDoorI24
import Derived.Test.YtiobcifpebehnaaDoorI25
/- I26: ids and sets side by side -/
namespace Go.Proofs.YtiobcifpebehnaaDoor
open Go.RowKit
set_option linter.unusedVariables false

/-- A number in a cell. -/
def natC : Cel Nat := ⟨fun i => [.int .i64 (i : Nat)], 1, fun _ => rfl, fun x u hu => by obtain rfl := List.mem_singleton.1 hu; rfl, by decide⟩
/-- An id that was told, with the slice and the set that it was told for. -/
structure OQ where
  i : Nat
  s : SV
  x : List Att
@[reducible] def OQ.p (q : OQ) : Nat × List Att := (q.i, q.x)

/-- A table, and two lists of the law's own: the ids, and the sets that they were told for. -/
structure OneR (w0 : World) (B tb : Nat) (iv sv : Value) (I : List Nat) (V : List SV) (S : Nat → Prop) (T : TabS) (n : Nat) (wr : World) : Prop where
  t : Tb B S tb T n wr
  tab : Tab B wr
  bel : Below w0.heap.size w0 wr
  ids : wr.ownsRow 0 3 1 iv I.length (fl natC I)
  sets : wr.ownsRow 0 37 1 sv V.length (fl svC V)
  iB : ∀ g, iv.ownBlock = some g → B ≤ g ∧ ¬ S g
  sB : ∀ g, sv.ownBlock = some g → B ≤ g ∧ ¬ S g

section
variable {w0 : World} {B tb : Nat} {iv sv : Value} {I : List Nat} {V : List SV} {S : Nat → Prop} {T : TabS} {n : Nat} {wr : World}
theorem OneR.below (h : OneR w0 B tb iv sv I V S T n wr) {w' : World} (hb : Below wr.heap.size wr w') : OneR w0 B tb iv sv I V S T n w' :=
  ⟨h.t.below hb, h.tab.on (hb.mono h.t.hB), below_add h.bel hb h.bel.size, owns_kept h.ids (fun g hg => hb.block g (own_lt7 h.ids hg)), owns_kept h.sets (fun g hg => hb.block g (own_lt7 h.sets hg)), h.iB, h.sB⟩
theorem OneR.cut (h : OneR w0 B tb iv sv I V S T n wr) : OneR w0 B tb iv sv I V (fun k => S k ∧ k < wr.heap.size) T n wr :=
  ⟨h.t.cut, h.tab, h.bel, h.ids, h.sets, fun g hg => ⟨(h.iB g hg).1, fun hc => (h.iB g hg).2 hc.1⟩, fun g hg => ⟨(h.sB g hg).1, fun hc => (h.sB g hg).2 hc.1⟩⟩
theorem OneR.le (h : OneR w0 B tb iv sv I V S T n wr) {m : Nat} (hm : n ≤ m) : OneR w0 B tb iv sv I V S T m wr := by
  obtain ⟨⟨st, mb, mm, sv', fv, hs, D, t⟩, h2, h3, h4, h5, h6, h7⟩ := h
  obtain ⟨es, clock, q1, q2, q3, q4⟩ := t.hmb
  exact ⟨⟨st, mb, mm, sv', fv, hs, D, { t with hmb := ⟨es, clock, q1, q2, by omega, q4⟩, le := t.le.mono hm }⟩, h2, h3, h4, h5, h6, h7⟩
theorem OneR.first (h : HoldR w0 B tb T n wr) : OneR w0 B tb (.slice none 0 0) (.slice none 0 0) [] [] (fun k => B ≤ k) T n wr :=
  ⟨h.t, h.tab, h.bel, ⟨rfl, .inl ⟨rfl, rfl⟩⟩, ⟨rfl, .inl ⟨rfl, rfl⟩⟩, fun g hg => by simp [Value.ownBlock] at hg, fun g hg => by simp [Value.ownBlock] at hg⟩
/-- The same lists, where only the table's blocks have turned. -/
theorem OneR.off (h : OneR w0 B tb iv sv I V S T n wr) (hw : w0.heap.size ≤ B) {w' : World} {T' : TabS} {n' : Nat} {S' : Nat → Prop} (ht : Tb B S' tb T' n' w') (hS : ∀ k, S' k → S k ∨ wr.heap.size ≤ k) (ho : Off S wr w') : OneR w0 B tb iv sv I V S' T' n' w' := by
  have hb := ho.below h.t.sB h.t.hB
  have hi : ∀ g, iv.ownBlock = some g → ¬ S' g := fun g hg hc => by
    rcases hS g hc with e | e
    · exact (h.iB g hg).2 e
    · have := own_lt7 h.ids hg; omega
  have hs : ∀ g, sv.ownBlock = some g → ¬ S' g := fun g hg hc => by
    rcases hS g hc with e | e
    · exact (h.sB g hg).2 e
    · have := own_lt7 h.sets hg; omega
  exact ⟨ht, h.tab.on hb, h.bel.trans (hb.mono hw), owns_kept h.ids (fun g hg => ho.block g (own_lt7 h.ids hg) (h.iB g hg).2), owns_kept h.sets (fun g hg => ho.block g (own_lt7 h.sets hg) (h.sB g hg).2), fun g hg => ⟨(h.iB g hg).1, hi g hg⟩, fun g hg => ⟨(h.sB g hg).1, hs g hg⟩⟩

def OneP (w0 : World) (B tb : Nat) (iv sv : Value) (I : List Nat) (V : List SV) (T : TabS) (n : Nat) (x : List Att) (e : Ending) (w2 : World) : Prop :=
  (may5 T.ks x ≠ 0 ∧ e = .returned (.tuple #[.int .i64 0, .int .i64 (may5 T.ks x)]) ∧ ∃ S, OneR w0 B tb iv sv I V S T n w2) ∨
  (may5 T.ks x = 0 ∧ e = .returned (.tuple #[.int .i64 (T.idOf x : Nat), .int .i64 0]) ∧ ∃ S, OneR w0 B tb iv sv I V S (T.add x) (n + 1) w2)
theorem OneR.arg (h : OneR w0 B tb iv sv I V S T n wr) (hn : n ≤ 1000000) {v : Value} {x : List Att} (hv : Arow w0 v x) (hW : ∀ a ∈ x, AttW a) (hw : w0.heap.size ≤ B) :
    Calls Tryd.prog 14 #[.pointer (some ⟨tb, 0, none⟩), v] wr (OneP w0 B tb iv sv I V T n x) := by
  have hv' : Arow wr v x := hv.below h.bel (Nat.le_refl _)
  have hc := h.cut
  have conv : ∀ e w', AddP B (fun k => S k ∧ k < wr.heap.size) tb T n x wr e w' → OneP w0 B tb iv sv I V T n x e w' := fun e w' hP => by
    rcases hP with ⟨p1, p2, p3, p4⟩ | ⟨p1, p2, p3, p4⟩
    · exact .inl ⟨p1, p2, _, hc.off hw p3 (fun k hk => .inl hk) (Off.of_below p4)⟩
    · exact .inr ⟨p1, p2, _, hc.off hw p3 (fun k hk => hk) p4⟩
  rcases outs_below hv hw (S := fun k => S k ∧ k < wr.heap.size) (fun k hk => h.t.sB k hk.1) with ho | hx
  · exact (add7_any v x wr hc.t hv' hW hn h.tab ho).mono conv
  · by_cases hm : may5 T.ks x = 0
    · have hl : T.look x = some 0 := by
        have := look_live h.t.ok (i := 0) (.inl rfl)
        rwa [h.t.ok.zero, ← hx] at this
      exact (add_there v x wr hc.t hv' hW hm hn h.tab hl).mono conv
    · exact (add_bad v x wr hc.t hv' hW hm).mono conv
theorem OneR.told (h : OneR w0 B tb iv sv I V S T n wr) (hn : n ≤ 1000000) {i : Nat} {X : List Att} (hl : T.live i) (hs : T.set i = X) :
    Calls Tryd.prog 21 #[.pointer (some ⟨tb, 0, none⟩), .int .i64 (i : Nat)] wr fun e w' => ∃ a c, e = .returned (.tuple #[.slice a X.length c, .int .i64 0]) ∧ Arow w' (.slice a X.length c) X ∧ Below wr.heap.size wr w' := by
  refine (setB (i : Nat) wr h.t hn).mono fun e w' hP => ?_
  obtain ⟨hb, ⟨-, u, he, ho⟩ | ⟨hf, -⟩⟩ := hP
  · rw [Int.toNat_natCast, hs] at ho
    obtain ⟨hr, -⟩ := Row.of_owns (C := attC) ho
    obtain ⟨a, c, rfl⟩ := hr.shape
    exact ⟨a, c, he, hr, hb⟩
  · rw [live_has hl] at hf; cases hf
theorem OneR.freed (h : OneR w0 B tb iv sv I V S T n wr) (hn : n ≤ 1000000) {i : Nat} (hl : T.live i) (hw : w0.heap.size ≤ B) :
    Calls Tryd.prog 16 #[.pointer (some ⟨tb, 0, none⟩), .int .i64 (i : Nat)] wr fun e w' => e = .returned (.int .i64 0) ∧ ∃ S', OneR w0 B tb iv sv I V S' (T.less i) (n + 1) w' := by
  have hc := h.cut
  refine (free_any (i : Nat) wr hc.t hn h.tab).mono fun e w' hP => ?_
  rcases hP with ⟨-, p2, p3, p4⟩ | ⟨hf, -⟩
  · rw [Int.toNat_natCast] at p3
    exact ⟨p2, _, hc.off hw p3 (fun k hk => hk) p4⟩
  · rw [live_has hl] at hf; cases hf
/-- One more id. -/
theorem OneR.pushI (h : OneR w0 B tb iv sv I V S T n wr) (hw : w0.heap.size ≤ B) {w1 : World} {iv' : Value} {I' : List Nat} (hG : wr.grownBy w1 iv.ownBlock) (ho : w1.ownsRow 0 3 1 iv' I'.length (fl natC I')) (hN : ∀ g, iv'.ownBlock = some g → iv.ownBlock = some g ∨ wr.heap.size ≤ g) : ∃ S', OneR w0 B tb iv' sv I' V S' T n w1 := by
  have hc := h.cut
  have hO : Off (fun k => iv.ownBlock = some k) wr w1 := Off.of_grown hG (fun g hg => hg)
  have hb : Below B wr w1 := hO.below (fun k hk => (h.iB k hk).1) h.t.hB
  have hz := hO.size
  obtain ⟨st, mb, mm, sv', fv, hs, D, t⟩ := hc.t
  refine ⟨_, ⟨st, mb, mm, sv', fv, hs, D, t.kept hz (fun k hk hk2 => hO.block k hk (fun hi => ?_))⟩, h.tab.on hb, h.bel.trans (hb.mono hw), ho, own_far hG h.sets (fun g hg => ?_), fun g hg => ?_, fun g hg => hc.sB g hg⟩
  · rcases hk2 with e | e
    · have := (h.iB k hi).1; omega
    · exact (h.iB k hi).2 e.1
  · obtain ⟨cur, hcur⟩ := own_tag h.ids hg
    exact ⟨_, hcur, fun c => by simp⟩
  · rcases hN g hg with e | e
    · exact hc.iB g e
    · exact ⟨by have := h.t.hB; omega, fun hcc => by have := hcc.2; omega⟩
/-- One more set. -/
theorem OneR.pushS (h : OneR w0 B tb iv sv I V S T n wr) (hw : w0.heap.size ≤ B) {w1 : World} {sv' : Value} {V' : List SV} (hG : wr.grownBy w1 sv.ownBlock) (ho : w1.ownsRow 0 37 1 sv' V'.length (fl svC V')) (hN : ∀ g, sv'.ownBlock = some g → sv.ownBlock = some g ∨ wr.heap.size ≤ g) : ∃ S', OneR w0 B tb iv sv' I V' S' T n w1 := by
  have hc := h.cut
  have hO : Off (fun k => sv.ownBlock = some k) wr w1 := Off.of_grown hG (fun g hg => hg)
  have hb : Below B wr w1 := hO.below (fun k hk => (h.sB k hk).1) h.t.hB
  have hz := hO.size
  obtain ⟨st, mb, mm, s', fv, hs, D, t⟩ := hc.t
  refine ⟨_, ⟨st, mb, mm, s', fv, hs, D, t.kept hz (fun k hk hk2 => hO.block k hk (fun hi => ?_))⟩, h.tab.on hb, h.bel.trans (hb.mono hw), own_far hG h.ids (fun g hg => ?_), ho, fun g hg => hc.iB g hg, fun g hg => ?_⟩
  · rcases hk2 with e | e
    · have := (h.sB k hi).1; omega
    · exact (h.sB k hi).2 e.1
  · obtain ⟨cur, hcur⟩ := own_tag h.sets hg
    exact ⟨_, hcur, fun c => by simp⟩
  · rcases hN g hg with e | e
    · exact hc.sB g e
    · exact ⟨by have := h.t.hB; omega, fun hcc => by have := hcc.2; omega⟩
theorem OneR.shapes (h : OneR w0 B tb iv sv I V S T n wr) : (∃ a c, iv = .slice a I.length c) ∧ ∃ a c, sv = .slice a V.length c :=
  ⟨(Row.of_owns (C := natC) h.ids).1.shape, (Row.of_owns (C := svC) h.sets).1.shape⟩
theorem nat_at {w : World} {a : Option Addr} {m cap : Nat} {I : List Nat} (h : Row natC w (.slice a m cap) I) (h0 : 0 < I.length) : ∃ b off, a = some ⟨b, off, none⟩ ∧ I.length ≤ cap ∧ cap ≤ maxLen ∧ ∀ j (hj : j < I.length), w.cell? ⟨b, off + j, none⟩ = some (.int .i64 (I[j] : Nat)) := by
  obtain ⟨b, off, ha, hn, hc, hm, hb, hat, -⟩ := Row.opened h h0
  refine ⟨b, off, ha, hc, hm, fun j hj => ?_⟩
  have hcell := hat j hj 0 _ rfl
  rw [show j * natC.m = j from Nat.mul_one j, Nat.add_zero] at hcell
  exact hcell
theorem sv_at {w : World} {a : Option Addr} {m cap : Nat} {V : List SV} (h : Row svC w (.slice a m cap) V) (h0 : 0 < V.length) : ∃ b off, a = some ⟨b, off, none⟩ ∧ V.length ≤ cap ∧ cap ≤ maxLen ∧ ∀ j (hj : j < V.length), w.cell? ⟨b, off + j, none⟩ = some V[j].v := by
  obtain ⟨b, off, ha, hn, hc, hm, hb, hat, -⟩ := Row.opened h h0
  refine ⟨b, off, ha, hc, hm, fun j hj => ?_⟩
  have hcell := hat j hj 0 _ rfl
  rw [show j * svC.m = j from Nat.mul_one j, Nat.add_zero] at hcell
  exact hcell
end
set_option maxRecDepth 100000 in
theorem info_slice7 : ∃ i, Tryd.prog.info? 37 = some i ∧ i.zero = some (.slice none 0 0) ∧ i.size = 1 ∧ i.bytes = 24 := ⟨_, rfl, rfl, rfl, rfl⟩
set_option maxRecDepth 100000 in
theorem info_int7 : ∃ i, Tryd.prog.info? 3 = some i ∧ i.zero = some (.int .i64 0) ∧ i.size = 1 ∧ i.bytes = 8 := ⟨_, rfl, rfl, rfl, rfl⟩
end Go.Proofs.YtiobcifpebehnaaDoor
