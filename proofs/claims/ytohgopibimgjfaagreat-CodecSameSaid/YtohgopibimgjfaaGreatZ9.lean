import Derived.Test.YtohgopibimgjfaaGreatZ8
import Derived.Test.YtohgopibimgjfaaGreatShelf
import Derived.Deep.CutBlock
import Derived.Deep.CutRange
import Derived.Deep.RegionLaw
import Derived.Deep.AppendLies
/- Q0: the program's bytes of runes -/
namespace Go.Proofs.YtohgopibimgjfaaGreat
open Go.RowKit
set_option linter.unusedVariables false

/-- What a round of Bytes does. -/
theorem bytes_round {w wr w1 : World} {o : Obj} {B k n : Nat} {v v' : Value} {xs : List Int} {x : Int} (hx : xs.getD k 0 = x) (hk : k < xs.length) (hB : w.heap.size = B)
    (h1 : w1.ownsRow B 5 1 v' (n + (Lib.runeCells x).length) ((utfZ (xs.take k)).map (Value.int .u8) ++ Lib.runeCells x)) (hown : wr.ownsRow B 5 1 v n ((utfZ (xs.take k)).map (Value.int .u8)))
    (hg : (wr.alloc o).grownBy w1 v.ownBlock) (hb : Below B w wr) :
    (w1.ownsRow B 5 1 v' (n + (Lib.runeCells x).length) ((utfZ (xs.take (k + 1))).map (Value.int .u8))) ∧ Below B w w1 := by
  subst hB
  refine ⟨?_, ?_⟩
  · rw [take_snoc xs k hk, hx, utfZ_snoc, List.map_append]
    exact h1
  · have hsz := hb.size
    refine (hb.alloc hsz o).grown hg (by simp; omega) ?_
    intro j hj
    exact (hown.lt j hj).1

set_option maxHeartbeats 1000000 in
theorem pbytes_any (v : Value) (xs : List Int) (w : World) (hv : Ints .i32 w v xs) (hlen : xs.length ≤ 1048576) :
    Calls Tryz.prog 87 #[v] w (BytesPost w.heap.size xs w) := by
  obtain ⟨i0, hi, hz0, hz1, hz2⟩ := info_parts info5
  rcases hv with ⟨a, cap, rfl, rfl, hm, _⟩ | ⟨b, off, cap, rfl, h0, h1, hm, hc⟩
  · go_enter Tryz.func87, Tryz.ntmps87
    go_wp2_with (at_make; refine wpList_make_own _ rfl _ _ 31 rfl w.heap.size 5 i0 (.int .u8 0) 1 Tryz.underlying31 hi hz0 hz1 _ _ _ 0 rfl rfl (by omega) (by rw [hz2]; omega) (by unfold maxLen; omega) (Nat.le_refl _) ?_; intro w0 hown0 hgrow0)
    refine wp_loop_rounds 1 ?_
    rw [rounds_succ]
    go_wp2
    go_ret2
    exact ⟨(Below.refl _ _).grown hgrow0 (Nat.le_refl _) (fun k h => by cases h), .inl ⟨rfl, _, _, rfl, hown0⟩⟩
  · unfold maxLen at hm
    obtain ⟨B, hB⟩ : ∃ B, w.heap.size = B := ⟨_, rfl⟩
    have hbB : b < B := hB ▸ World.block_lt_of_cell? w _ (hc 0 h0)
    have HB := Lib.hid hB
    rw [hB]
    have hBle : B ≤ w.heap.size := by omega
    clear hB
    go_enter Tryz.func87, Tryz.ntmps87
    go_wp2_with (at_make; refine wpList_make_own _ rfl _ _ 31 rfl B 5 i0 (.int .u8 0) 1 Tryz.underlying31 hi hz0 hz1 _ _ _ xs.length rfl rfl (by omega) (by rw [hz2]; omega) (by unfold maxLen; omega) hBle ?_; intro w0 hown0 hgrow0)
    go_loopw [4, 12] (fun v i wr => ∃ k n : Nat, k ≤ xs.length ∧ i = .int .i64 k ∧ wr.ownsRow B 5 1 v n ((utfZ (xs.take k)).map (Value.int .u8)) ∧ Hid (allMay (xs.take k) = true) ∧ Below B w wr) (fun _ i _ => xs.length - (intOf i).toNat)
    case atStart => exact ⟨0, 0, Nat.zero_le _, rfl, hown0, rfl, (Below.refl _ _).grown hgrow0 (by omega) (fun k h => by cases h)⟩
    case round =>
      obtain ⟨k, n, hk, rfl, hown, ham, hb⟩ := hrel
      have hsz := hb.size
      have hn : n ≤ 4200000 := by
        have e := hown.1
        have l := utfZ_len (xs.take k)
        have l2 : (xs.take k).length ≤ k := List.length_take_le _ _
        simp at e
        omega
      by_cases hlt : k < xs.length
      · have hcx : wr.cell? ⟨b, off + k, none⟩ = some (.int .i32 (xs.getD k 0)) := (hb.cell (p := ⟨b, off + k, none⟩) hbB).trans (hc k hlt)
        have K1 := Lib.hid (allMay_take xs k hlt ham.out)
        have K2 := Lib.hid (allMay_not xs k hlt)
        obtain ⟨x, hx⟩ : ∃ x, xs.getD k 0 = x := ⟨_, rfl⟩
        rw [hx] at hcx K1 K2
        have HX := Lib.hid hx
        clear hx hc
        cases hmx : mayB x with
        | true =>
          have hr := may_range x hmx
          have K3 := Lib.hid (K1.out hmx)
          clear K1 K2
          go_wp2_with (first
            | (go_at_call 81; refine (may_any _ _).mono ?_; rintro e w' ⟨rfl, rfl⟩)
            | (go_at_call 124; refine (Tryz.utf8_AppendRune_plain B _ _ _ _ (by omega) (by omega) _ hown (by omega) (by omega)).mono ?_))
          rintro e w1 ⟨v', rfl, h1', o, hg⟩
          have R := bytes_round HX.out hlt HB.out h1' hown hg hb
          clear h1' hown hg
          go_wp2
          go_roundw
          case rel => exact ⟨k + 1, _, by omega, by go_num, R.1, K3.out, R.2⟩
          case measure => simp [intOf]; omega
        | false =>
          have K3 := Lib.hid (K2.out hmx)
          clear K1 K2
          go_wp2_with (go_at_call 81; refine (may_any _ _).mono ?_; rintro e w' ⟨rfl, rfl⟩)
          go_ret2
          exact ⟨HB.out.symm ▸ hb, .inr ⟨K3.out, rfl⟩⟩
      · obtain rfl : k = xs.length := by omega
        have ham2 := ham.out
        rw [List.take_of_length_le (Nat.le_refl _)] at ham2 hown
        have HA := Lib.hid ham2
        clear ham ham2
        go_wp2
        go_ret2
        exact ⟨HB.out.symm ▸ hb, .inl ⟨HA.out, _, _, rfl, hown⟩⟩
end Go.Proofs.YtohgopibimgjfaaGreat

/- Q1: what the program's reader reads, as plain data -/
namespace Go.Proofs.YtohgopibimgjfaaGreat
open Go.RowKit
set_option linter.unusedVariables false
set_option maxRecDepth 100000

/-- A reader and a wider one, which agree on what is of C. -/
structure Ext {α : Type} (p p' : List Int → Option (α × List Int)) (C : α → Prop) : Prop where
  up : ∀ l x r, p l = some (x, r) → p' l = some (x, r)
  dn : ∀ l x r, p' l = some (x, r) → C x → p l = some (x, r)
theorem Ext.rfl' {α : Type} (p : List Int → Option (α × List Int)) (C : α → Prop) : Ext p p C := ⟨fun _ _ _ h => h, fun _ _ _ h _ => h⟩
theorem ext_pair {α β : Type} {p p' : List Int → Option (α × List Int)} {C : α → Prop} {q q' : α → List Int → Option (β × List Int)} {D : α → β → Prop} (hp : Ext p p' C) (hq : ∀ x, Ext (q x) (q' x) (D x)) :
    Ext (cPair p q) (cPair p' q') (fun z => C z.1 ∧ D z.1 z.2) := by
  refine ⟨fun l z r h => ?_, fun l z r h hz => ?_⟩
  · cases h1 : p l with
    | none => rw [cPair_no h1] at h; cases h
    | some a =>
      obtain ⟨x, s⟩ := a
      rw [cPair_yes h1] at h
      rw [cPair_yes (hp.up l x s h1)]
      cases h2 : q x s with
      | none => rw [h2] at h; cases h
      | some b =>
        obtain ⟨y, t⟩ := b
        rw [h2] at h
        rw [(hq x).up s y t h2]
        exact h
  · cases h1 : p' l with
    | none => rw [cPair_no h1] at h; cases h
    | some a =>
      obtain ⟨x, s⟩ := a
      rw [cPair_yes h1] at h
      cases h2 : q' x s with
      | none => rw [h2] at h; cases h
      | some b =>
        obtain ⟨y, t⟩ := b
        rw [h2] at h
        simp only [Option.some.injEq, Prod.mk.injEq] at h
        obtain ⟨rfl, rfl⟩ := h
        rw [cPair_yes (hp.dn l x s h1 hz.1), (hq x).dn s y t h2 hz.2]
theorem ext_map {α β : Type} {p p' : List Int → Option (α × List Int)} {C : α → Prop} {D : β → Prop} (g : α → β) (hp : Ext p p' C) (hCD : ∀ x, D (g x) → C x) : Ext (cMap g p) (cMap g p') D := by
  refine ⟨fun l y r h => ?_, fun l y r h hd => ?_⟩
  · cases h1 : p l with
    | none => rw [cMap_no h1] at h; cases h
    | some a =>
      obtain ⟨x, s⟩ := a
      rw [cMap_yes h1] at h
      rw [cMap_yes (hp.up l x s h1)]
      exact h
  · cases h1 : p' l with
    | none => rw [cMap_no h1] at h; cases h
    | some a =>
      obtain ⟨x, s⟩ := a
      rw [cMap_yes h1] at h
      simp only [Option.some.injEq, Prod.mk.injEq] at h
      obtain ⟨rfl, rfl⟩ := h
      rw [cMap_yes (hp.dn l x s h1 (hCD x hd))]
theorem ext_many {α : Type} {p p' : List Int → Option (α × List Int)} {C : α → Prop} (hp : Ext p p' C) : ∀ k : Nat, Ext (cMany p k) (cMany p' k) (fun xs => ∀ x ∈ xs, C x)
  | 0 => Ext.rfl' _ _
  | k + 1 => by
    have ih := ext_many hp k
    refine ⟨fun l z r h => ?_, fun l z r h hz => ?_⟩
    · cases h1 : p l with
      | none => rw [cMany_no h1] at h; cases h
      | some a =>
        obtain ⟨x, s⟩ := a
        rw [cMany_yes h1] at h
        rw [cMany_yes (hp.up l x s h1)]
        cases h2 : cMany p k s with
        | none => rw [h2] at h; cases h
        | some b =>
          obtain ⟨y, t⟩ := b
          rw [h2] at h
          rw [ih.up s y t h2]
          exact h
    · cases h1 : p' l with
      | none => rw [cMany_no h1] at h; cases h
      | some a =>
        obtain ⟨x, s⟩ := a
        rw [cMany_yes h1] at h
        cases h2 : cMany p' k s with
        | none => rw [h2] at h; cases h
        | some b =>
          obtain ⟨y, t⟩ := b
          rw [h2] at h
          simp only [Option.some.injEq, Prod.mk.injEq] at h
          obtain ⟨rfl, rfl⟩ := h
          rw [cMany_yes (hp.dn l x s h1 (hz x (List.mem_cons_self ..))), ih.dn s y t h2 (fun u hu => hz u (List.mem_cons_of_mem _ hu))]
theorem ext_list {α : Type} {p p' : List Int → Option (α × List Int)} {C : α → Prop} (hp : Ext p p' C) : Ext (cList p) (cList p') (fun xs => ∀ x ∈ xs, C x) :=
  ext_map (C := fun z : Nat × List α => True ∧ ∀ x ∈ z.2, C x) (fun z : Nat × List α => z.2) (ext_pair (Ext.rfl' cNum (fun _ => True)) (fun k => ext_many hp k)) (fun _ h => ⟨trivial, h⟩)
theorem ext_only {α : Type} {p : List Int → Option (α × List Int)} {b b' : α → Bool} (h : ∀ x, b x = true → b' x = true) : Ext (cOnly b p) (cOnly b' p) (fun x => b x = true) := by
  refine ⟨fun l x r hx => ?_, fun l x r hx hb => ?_⟩
  · cases hc : p l with
    | none => rw [cOnly_no hc] at hx; cases hx
    | some a =>
      obtain ⟨y, s⟩ := a
      rw [cOnly_yes hc] at hx ⊢
      by_cases hb : b y = true
      · rw [if_pos hb] at hx; rw [if_pos (h y hb)]; exact hx
      · rw [if_neg hb] at hx; cases hx
  · cases hc : p l with
    | none => rw [cOnly_no hc] at hx; cases hx
    | some a =>
      obtain ⟨y, s⟩ := a
      rw [cOnly_yes hc] at hx ⊢
      by_cases hb2 : b' y = true
      · rw [if_pos hb2] at hx
        simp only [Option.some.injEq, Prod.mk.injEq] at hx
        obtain ⟨rfl, rfl⟩ := hx
        rw [if_pos hb]
      · rw [if_neg hb2] at hx; cases hx
theorem ext_any {α : Type} {p : List Int → Option (α × List Int)} {b : α → Bool} : Ext (cOnly b p) p (fun x => b x = true) := by
  refine ⟨fun l x r hx => ?_, fun l x r hx hb => ?_⟩
  · cases hc : p l with
    | none => rw [cOnly_no hc] at hx; cases hx
    | some a =>
      obtain ⟨y, s⟩ := a
      rw [cOnly_yes hc] at hx
      by_cases hb : b y = true
      · rw [if_pos hb] at hx; exact hx
      · rw [if_neg hb] at hx; cases hx
  · rw [cOnly_yes hx, if_pos hb]

/-- What the program's reader reads: kinds up to 255, of which only some have more behind them. -/
def cNat (M : Nat) : List Int → Option (Nat × List Int) := cOnly (fun n => decide (n ≤ M)) cNum
def cValP (k : Nat) : List Int → Option (Vl × List Int) :=
  if k = 1 ∨ k = 2 then cMap (fun n : Nat => (⟨k, zag n, 0, ⟨#[]⟩⟩ : Vl)) cNum
  else if k = 3 then cMap (fun n : Nat => (⟨3, 0, n, ⟨#[]⟩⟩ : Vl)) cNum
  else if k = 4 then cMap (fun b : List Int => (⟨4, 0, 0, strOfNums b⟩ : Vl)) cBytes
  else fun l => some (⟨k, 0, 0, ⟨#[]⟩⟩, l)
def cVlP : List Int → Option (Vl × List Int) := cMap (fun z : Nat × Vl => z.2) (cPair (cNat 255) cValP)
def cAttP : List Int → Option (Att × List Int) := cMap attOf (cPair (cNat 9223372036854775807) fun _ => cVlP)
def cChgP : List Int → Option (Chg × List Int) := cMap chgOf (cPair (cNat 9223372036854775807) fun _ => cVlP)
def cKindP (k : Nat) : List Int → Option (Opn × List Int) :=
  if k = 1 then cMap opR (cPair (cNat 9223372036854775807) fun _ => cList cChgP)
  else if k = 2 then cMap opI (cPair cRunes fun _ => cList cAttP)
  else if k = 3 then cMap opD (cNat 9223372036854775807)
  else fun l => some (⟨k, 0, [], [], []⟩, l)
def cOpP : List Int → Option (Opn × List Int) := cMap (fun z : Nat × Opn => z.2) (cPair (cNat 255) cKindP)
def cAllP (l : List Int) : Option (List Opn) := match cList cOpP l with
  | none => none
  | some (xs, r) => if r = [] then some xs else none

/-- What is a value, an attribute, .. of the document's. -/
@[reducible] def PV (v : Vl) : Prop := v.k = 1 ∨ v.k = 2 ∨ v.k = 3 ∨ v.k = 4
theorem k_cases {k : Nat} (h1 : ¬ (k = 1 ∨ k = 2)) (h3 : ¬ k = 3) (h4 : ¬ k = 4) {v : Vl} (hv : v.k = (k : Int)) (h : PV v) : False := by
  unfold PV at h; omega
theorem ext_val (k : Nat) : Ext (cVal k) (cValP k) PV := by
  unfold cVal cValP
  by_cases h1 : k = 1 ∨ k = 2
  · rw [if_pos h1, if_pos h1]; exact Ext.rfl' _ _
  rw [if_neg h1, if_neg h1]
  by_cases h3 : k = 3
  · rw [if_pos h3, if_pos h3]; exact Ext.rfl' _ _
  rw [if_neg h3, if_neg h3]
  by_cases h4 : k = 4
  · rw [if_pos h4, if_pos h4]; exact Ext.rfl' _ _
  rw [if_neg h4, if_neg h4]
  refine ⟨fun l x r h => by simp at h, fun l x r h hx => ?_⟩
  simp only [Option.some.injEq, Prod.mk.injEq] at h
  obtain ⟨rfl, rfl⟩ := h
  exact (k_cases h1 h3 h4 rfl hx).elim
/-- A value's kind is what was read. -/
theorem cValP_k {k : Nat} {l r : List Int} {v : Vl} (h : cValP k l = some (v, r)) : v.k = (k : Int) := by
  unfold cValP at h
  by_cases h1 : k = 1 ∨ k = 2
  · rw [if_pos h1] at h
    unfold cMap at h
    cases hc : cNum l with
    | none => rw [hc] at h; cases h
    | some a =>
      rw [hc] at h
      simp only [Option.some.injEq, Prod.mk.injEq] at h
      rw [← h.1]
  rw [if_neg h1] at h
  by_cases h3 : k = 3
  · rw [if_pos h3] at h
    unfold cMap at h
    cases hc : cNum l with
    | none => rw [hc] at h; cases h
    | some a =>
      rw [hc] at h
      simp only [Option.some.injEq, Prod.mk.injEq] at h
      rw [← h.1, h3]; rfl
  rw [if_neg h3] at h
  by_cases h4 : k = 4
  · rw [if_pos h4] at h
    unfold cMap at h
    cases hc : cBytes l with
    | none => rw [hc] at h; cases h
    | some a =>
      rw [hc] at h
      simp only [Option.some.injEq, Prod.mk.injEq] at h
      rw [← h.1, h4]; rfl
  rw [if_neg h4] at h
  simp only [Option.some.injEq, Prod.mk.injEq] at h
  rw [← h.1]
/-- A kind, and what stands behind it. -/
theorem ext_kinds {α : Type} {q q' : Nat → List Int → Option (α × List Int)} {D : α → Prop} (hq : ∀ k, Ext (q k) (q' k) D) (hk : ∀ k l, 255 < k → q k l = none) : Ext (cMap (fun z : Nat × α => z.2) (cPair cNum q)) (cMap (fun z : Nat × α => z.2) (cPair (cNat 255) q')) D := by
  have h0 : Ext (cPair cNum q) (cPair (cNat 255) q') (fun z => D z.2) := by
    refine ⟨fun l z r h => ?_, fun l z r h hz => ?_⟩
    · cases h1 : cNum l with
      | none => rw [cPair_no h1] at h; cases h
      | some a =>
        obtain ⟨x, s⟩ := a
        rw [cPair_yes h1] at h
        have hx : x ≤ 255 := by
          by_cases q1 : x ≤ 255
          · exact q1
          · rw [hk x s (by omega)] at h; cases h
        have h3 : cNat 255 l = some (x, s) := by unfold cNat; rw [cOnly_yes h1, if_pos (decide_eq_true hx)]
        rw [cPair_yes h3]
        cases h2 : q x s with
        | none => rw [h2] at h; cases h
        | some b =>
          obtain ⟨y, t⟩ := b
          rw [h2] at h
          rw [(hq x).up s y t h2]
          exact h
    · cases h1 : cNat 255 l with
      | none => rw [cPair_no h1] at h; cases h
      | some a =>
        obtain ⟨x, s⟩ := a
        rw [cPair_yes h1] at h
        cases h2 : q' x s with
        | none => rw [h2] at h; cases h
        | some b =>
          obtain ⟨y, t⟩ := b
          rw [h2] at h
          simp only [Option.some.injEq, Prod.mk.injEq] at h
          obtain ⟨rfl, rfl⟩ := h
          rw [cPair_yes ((ext_any (p := cNum)).up l x s h1), (hq x).dn s y t h2 hz]
  exact ext_map (C := fun z : Nat × α => D z.2) (fun z : Nat × α => z.2) h0 (fun _ h => h)
theorem ext_vl : Ext cVl cVlP PV := by
  refine ext_kinds ext_val (fun k l hk => ?_)
  unfold cVal
  rw [if_neg (by omega), if_neg (by omega), if_neg (by omega)]
theorem ext_gone : Ext cGone cVlP (fun v => v.k = 0 ∨ PV v) := by
  refine ext_kinds (q := fun k => if k = 0 then fun l => some (zV, l) else cVal k) (fun k => ?_) (fun k l hk => ?_)
  · by_cases h0 : k = 0
    · subst h0
      exact Ext.rfl' _ _
    · rw [if_neg h0]
      refine ⟨(ext_val k).up, fun l x r h hx => (ext_val k).dn l x r h ?_⟩
      have := cValP_k h
      rcases hx with hx | hx
      · omega
      · exact hx
  · rw [if_neg (by omega)]
    unfold cVal
    rw [if_neg (by omega), if_neg (by omega), if_neg (by omega)]
theorem key_nat : cKey = cNat 9223372036854775807 := by
  unfold cKey cNat
  congr 1
  funext n
  exact decide_eq_decide.2 (by omega)
theorem ext_att : Ext cAtt cAttP (fun a => PV (vlA a)) := by
  unfold cAtt cAttP
  rw [key_nat]
  exact ext_map (C := fun z : Nat × Vl => True ∧ PV z.2) attOf (ext_pair (Ext.rfl' _ (fun _ => True)) (fun _ => ext_vl)) (fun z h => ⟨trivial, h⟩)
theorem ext_chg : Ext cChg cChgP (fun c => c.k = 0 ∨ PV (vlC c)) := by
  unfold cChg cChgP
  rw [key_nat]
  exact ext_map (C := fun z : Nat × Vl => True ∧ (z.2.k = 0 ∨ PV z.2)) chgOf (ext_pair (Ext.rfl' _ (fun _ => True)) (fun _ => ext_gone)) (fun z h => ⟨trivial, h⟩)
/-- An op of the document's. -/
def PO (M : Nat) (o : Opn) : Prop := (o.k = 1 ∧ o.n ≤ M ∧ ∀ c ∈ o.pt, c.k = 0 ∨ PV (vlC c)) ∨ (o.k = 2 ∧ ∀ a ∈ o.st, PV (vlA a)) ∨ (o.k = 3 ∧ o.n ≤ M)
theorem ext_len {M : Nat} (hM : M ≤ 9223372036854775807) : Ext (cLen M) (cNat 9223372036854775807) (fun n => n ≤ M) := by
  have h := ext_only (p := cNum) (b := fun n => decide (n ≤ M)) (b' := fun n => decide (n ≤ 9223372036854775807)) (fun x hx => decide_eq_true (by have := of_decide_eq_true hx; omega))
  exact ⟨h.up, fun l x r hx hc => h.dn l x r hx (decide_eq_true hc)⟩
theorem ext_kind {M : Nat} (hM : M ≤ 9223372036854775807) (k : Nat) : Ext (cKind M k) (cKindP k) (PO M) := by
  unfold cKind cKindP
  by_cases h1 : k = 1
  · rw [if_pos h1, if_pos h1]
    refine ext_map (C := fun z : Nat × List Chg => z.1 ≤ M ∧ ∀ c ∈ z.2, c.k = 0 ∨ PV (vlC c)) opR (ext_pair (ext_len hM) (fun _ => ext_list ext_chg)) (fun z h => ?_)
    rcases h with ⟨_, h2, h3⟩ | ⟨h2, _⟩ | ⟨h2, _⟩
    · exact ⟨by simpa [opR] using h2, h3⟩
    · simp [opR] at h2
    · simp [opR] at h2
  rw [if_neg h1, if_neg h1]
  by_cases h2 : k = 2
  · rw [if_pos h2, if_pos h2]
    refine ext_map (C := fun z : List Int × List Att => True ∧ ∀ a ∈ z.2, PV (vlA a)) opI (ext_pair (Ext.rfl' _ (fun _ => True)) (fun _ => ext_list ext_att)) (fun z h => ?_)
    rcases h with ⟨h2, _⟩ | ⟨_, h3⟩ | ⟨h2, _⟩
    · simp [opI] at h2
    · exact ⟨trivial, h3⟩
    · simp [opI] at h2
  rw [if_neg h2, if_neg h2]
  by_cases h3 : k = 3
  · rw [if_pos h3, if_pos h3]
    refine ext_map (C := fun n : Nat => n ≤ M) opD (ext_len hM) (fun z h => ?_)
    rcases h with ⟨h2, _⟩ | ⟨h2, _⟩ | ⟨_, h2⟩
    · simp [opD] at h2
    · simp [opD] at h2
    · simpa [opD] using h2
  rw [if_neg h3, if_neg h3]
  refine ⟨fun l x r h => by simp at h, fun l x r h hx => ?_⟩
  simp only [Option.some.injEq, Prod.mk.injEq] at h
  obtain ⟨rfl, rfl⟩ := h
  rcases hx with ⟨h, _⟩ | ⟨h, _⟩ | ⟨h, _⟩ <;> (simp only at h; omega)
theorem ext_op {M : Nat} (hM : M ≤ 9223372036854775807) : Ext (cOp M) cOpP (PO M) := by
  refine ext_kinds (ext_kind hM) (fun k l hk => ?_)
  unfold cKind
  rw [if_neg (by omega), if_neg (by omega), if_neg (by omega)]
theorem allP_up {M : Nat} (hM : M ≤ 9223372036854775807) {l : List Int} {xs : List Opn} (h : cAll M l = some xs) : cAllP l = some xs := by
  unfold cAll at h
  cases h1 : cOps M l with
  | none => rw [h1] at h; cases h
  | some a =>
    obtain ⟨ys, r⟩ := a
    rw [h1] at h
    have h2 : cList cOpP l = some (ys, r) := (ext_list (ext_op hM)).up l ys r h1
    unfold cAllP
    rw [h2]
    exact h
theorem allP_dn {M : Nat} (hM : M ≤ 9223372036854775807) {l : List Int} {xs : List Opn} (h : cAllP l = some xs) (hx : ∀ o ∈ xs, PO M o) : cAll M l = some xs := by
  unfold cAllP at h
  cases h1 : cList cOpP l with
  | none => rw [h1] at h; cases h
  | some a =>
    obtain ⟨ys, r⟩ := a
    rw [h1] at h
    by_cases hr : r = []
    · simp only [if_pos hr, Option.some.injEq] at h
      subst h
      have h2 : cOps M l = some (ys, r) := (ext_list (ext_op hM)).dn l ys r h1 hx
      unfold cAll
      rw [h2]
      simp only [if_pos hr]
    · simp only [if_neg hr] at h; cases h
/-- What may be is of the document's. -/
theorem vmay_pv {v : Vl} (h : vmay v.k v.n v.f v.s = true) : PV v := by
  unfold vmay at h
  rw [decide_eq_true_iff] at h
  unfold PV
  rcases h with ⟨h, _⟩ | ⟨h, _⟩ | ⟨h, _⟩ | ⟨h, _⟩ <;> omega
theorem may_po {ks : List Key} {xs : List Opn} (h : ¬ mayX ks xs = 3) : ∀ o ∈ xs, PO 1073741824 o := by
  intro o ho
  unfold mayX at h
  by_cases hs : 536870912 < sumK 3 xs ∨ 536870912 < sumK 2 xs
  · rw [if_pos hs] at h; exact absurd rfl h
  rw [if_neg hs] at h
  unfold told at h
  by_cases h3 : xs.any (fun p => mayO ks p == 3) = true
  · rw [if_pos h3] at h; exact absurd rfl h
  have hm : ¬ mayO ks o = 3 := fun e => h3 (List.any_eq_true.2 ⟨o, ho, by simp [e]⟩)
  have hsum := sumK_tot 3 xs
  have hn : cnt 3 o = true → o.k = 1 ∨ o.k = 3 → o.n ≤ 1073741824 := fun hc hk => by
    have h1 := tot_mem ho hc
    have h2 : tot 3 xs ≤ 536870912 := by omega
    unfold lenO at h1
    rw [if_neg (by omega)] at h1
    by_cases h0 : 0 ≤ o.n
    · rw [if_pos h0] at h1; omega
    · omega
  unfold mayO at hm
  by_cases k1 : o.k = 1
  · rw [if_pos k1] at hm
    unfold mayR at hm
    by_cases q : lenO o < 1 ∨ 0 < o.rs.length ∨ 0 < o.st.length
    · rw [if_pos q] at hm; exact absurd rfl hm
    rw [if_neg q] at hm
    unfold may6 at hm
    by_cases hw : (wf6 o.pt && okV (ats o.pt)) = true
    · rw [Bool.and_eq_true] at hw
      obtain ⟨hw, hv⟩ := hw
      refine .inl ⟨k1, hn (by unfold cnt; simp [k1]) (.inl k1), fun c hc => ?_⟩
      unfold wf6 at hw
      rw [Bool.and_eq_true, Bool.and_eq_true, decide_eq_true_iff, decide_eq_true_iff] at hw
      have h1 := List.all_eq_true.1 hw.2 c hc
      cases hcg : c.g with
      | true =>
        unfold gOk at h1
        rw [hcg] at h1
        have := zv_of (by simpa using h1)
        refine .inl ?_
        have e : (vlC c).k = zV.k := by rw [this]
        exact e
      | false =>
        have hm2 : toA c ∈ ats o.pt := List.mem_map_of_mem (List.mem_filter.2 ⟨hc, by simp [hcg]⟩)
        exact .inr (vmay_pv (v := vlC c) (List.all_eq_true.1 hv _ hm2))
    · rw [if_neg hw] at hm; exact absurd rfl hm
  rw [if_neg k1] at hm
  by_cases k2 : o.k = 2
  · rw [if_pos k2] at hm
    unfold mayI at hm
    by_cases q : lenO o < 1 ∨ o.n ≠ 0 ∨ 0 < o.pt.length
    · rw [if_pos q] at hm; exact absurd rfl hm
    rw [if_neg q] at hm
    by_cases q2 : o.rs.all mayB = true
    · rw [if_pos q2] at hm
      unfold may5 at hm
      by_cases hw : wf5 o.st = true
      · unfold wf5 at hw
        rw [Bool.and_eq_true, Bool.and_eq_true, decide_eq_true_iff, decide_eq_true_iff] at hw
        exact .inr (.inl ⟨k2, fun a ha => vmay_pv (v := vlA a) (List.all_eq_true.1 hw.2 a ha)⟩)
      · rw [if_neg hw] at hm; exact absurd rfl hm
    · rw [if_neg q2] at hm; exact absurd rfl hm
  rw [if_neg k2] at hm
  by_cases k3 : o.k = 3
  · exact .inr (.inr ⟨k3, hn (by unfold cnt; simp [k3]) (.inr k3)⟩)
  · rw [if_neg k3] at hm; exact absurd rfl hm
/-- What Decode tells, of the wider reader. -/
theorem decX_P (ks : List Key) (l : List Int) : decX 1073741824 ks l = match cAllP l with
  | none => ([], 3)
  | some xs => if mayX ks xs = 3 ∨ ¬ formO xs = xs then ([], 3) else if mayX ks xs = 4 then ([], 4) else (xs, 0) := by
  cases h : cAllP l with
  | none =>
    refine dec_none ?_
    cases h2 : cAll 1073741824 l with
    | none => rfl
    | some ys => rw [allP_up (by omega) h2] at h; cases h
  | some xs =>
    simp only
    by_cases h3 : mayX ks xs = 3
    · rw [if_pos (.inl h3)]
      cases h2 : cAll 1073741824 l with
      | none => exact dec_none h2
      | some ys =>
        have h4 := allP_up (by omega) h2
        rw [h] at h4
        simp only [Option.some.injEq] at h4
        subst h4
        unfold decX
        rw [h2]
        simp only
        rw [if_pos (.inl h3)]
    · have h2 := allP_dn (M := 1073741824) (by omega) h (may_po h3)
      unfold decX
      rw [h2]
end Go.Proofs.YtohgopibimgjfaaGreat

/- Q2: what the program's reader tells, call by call, as plain data -/
namespace Go.Proofs.YtohgopibimgjfaaGreat
open Go.RowKit
set_option linter.unusedVariables false
set_option maxRecDepth 100000

def qNum (bs : List Int) (p : Nat) (b : Bool) : Nat × Nat × Bool := match dec64 (bs.drop p) with
  | none => (0, 0, true)
  | some (n, s) => (n, p + s, b)
def qNat (bs : List Int) (M p : Nat) (b : Bool) : Nat × Nat × Bool := if M < (qNum bs p b).1 then (0, (qNum bs p b).2.1, true) else qNum bs p b
def qTxt (bs : List Int) (p : Nat) (b : Bool) : List Int × Nat × Bool := match dec64 (bs.drop p) with
  | none => ([], 0, true)
  | some (n, s) => if n ≤ bs.length - (p + s) then ((bs.drop (p + s)).take n, p + s + n, b) else ([], 0, true)
def qRun (bs : List Int) (p : Nat) (b : Bool) : List Int × Nat × Bool := match readL (bl (qTxt bs p b).1) with
  | none => ([], (qTxt bs p b).2.1, true)
  | some rs => (rs, (qTxt bs p b).2)
def qVal (bs : List Int) (k p : Nat) (b : Bool) : Vl × Nat × Bool :=
  if k = 1 ∨ k = 2 then (⟨k, zag (qNum bs p b).1, 0, ⟨#[]⟩⟩, (qNum bs p b).2)
  else if k = 3 then (⟨3, 0, (qNum bs p b).1, ⟨#[]⟩⟩, (qNum bs p b).2)
  else if k = 4 then (⟨4, 0, 0, strOfNums (qTxt bs p b).1⟩, (qTxt bs p b).2)
  else (⟨k, 0, 0, ⟨#[]⟩⟩, p, b)
def qVl (bs : List Int) (p : Nat) (b : Bool) : Vl × Nat × Bool := qVal bs (qNat bs 255 p b).1 (qNat bs 255 p b).2.1 (qNat bs 255 p b).2.2
def qKey (bs : List Int) (p : Nat) (b : Bool) : Nat × Nat × Bool := qNat bs 9223372036854775807 p b
def qAtt (bs : List Int) (p : Nat) (b : Bool) : Att × Nat × Bool :=
  (attOf ((qKey bs p b).1, (qVl bs (qKey bs p b).2.1 (qKey bs p b).2.2).1), (qVl bs (qKey bs p b).2.1 (qKey bs p b).2.2).2)
def qChg (bs : List Int) (p : Nat) (b : Bool) : Chg × Nat × Bool :=
  (chgOf ((qKey bs p b).1, (qVl bs (qKey bs p b).2.1 (qKey bs p b).2.2).1), (qVl bs (qKey bs p b).2.1 (qKey bs p b).2.2).2)
def qList {α : Type} (bs : List Int) (f : Nat → Bool → α × Nat × Bool) (p : Nat) (b : Bool) : List α × Nat × Bool :=
  sMany f (qNat bs bs.length p b).1 (qNat bs bs.length p b).2.1 (qNat bs bs.length p b).2.2
def qOpR (bs : List Int) (p : Nat) (b : Bool) : Opn × Nat × Bool :=
  (opR ((qKey bs p b).1, (qList bs (qChg bs) (qKey bs p b).2.1 (qKey bs p b).2.2).1), (qList bs (qChg bs) (qKey bs p b).2.1 (qKey bs p b).2.2).2)
def qOpI (bs : List Int) (p : Nat) (b : Bool) : Opn × Nat × Bool :=
  (opI ((qRun bs p b).1, (qList bs (qAtt bs) (qRun bs p b).2.1 (qRun bs p b).2.2).1), (qList bs (qAtt bs) (qRun bs p b).2.1 (qRun bs p b).2.2).2)
def qOpD (bs : List Int) (p : Nat) (b : Bool) : Opn × Nat × Bool := (opD (qKey bs p b).1, (qKey bs p b).2)
def qOpK (bs : List Int) (k p : Nat) (b : Bool) : Opn × Nat × Bool :=
  if k = 1 then qOpR bs p b else if k = 2 then qOpI bs p b else if k = 3 then qOpD bs p b else (⟨k, 0, [], [], []⟩, p, b)
def qOp (bs : List Int) (p : Nat) (b : Bool) : Opn × Nat × Bool := qOpK bs (qNat bs 255 p b).1 (qNat bs 255 p b).2.1 (qNat bs 255 p b).2.2
def qOps (bs : List Int) : List Opn × Nat × Bool := qList bs (qOp bs) 0 false

/-- A state function and its reader. -/
structure Sim {α : Type} (bs : List Int) (p : Nat) (b : Bool) (r : α × Nat × Bool) (f : List Int → Option (α × List Int)) : Prop where
  stay : b = true → r.2.2 = true
  bad : b = false → r.2.2 = true → f (bs.drop p) = none
  ok : r.2.2 = false → f (bs.drop p) = some (r.1, bs.drop r.2.1)
  at_ : r.2.1 ≤ bs.length
  le : r.2.2 = false → p ≤ r.2.1
theorem Sim.good {α : Type} {bs : List Int} {p : Nat} {b : Bool} {r : α × Nat × Bool} {f : List Int → Option (α × List Int)} (h : Sim bs p b r f) (hr : r.2.2 = false) : b = false := by
  cases b with
  | false => rfl
  | true => have := h.stay rfl; rw [hr] at this; cases this
theorem Sim.pair {α β : Type} {bs : List Int} {p : Nat} {b : Bool} {r : α × Nat × Bool} {r' : β × Nat × Bool} {f : List Int → Option (α × List Int)} {g : α → List Int → Option (β × List Int)} (h : Sim bs p b r f) (h' : Sim bs r.2.1 r.2.2 r' (g r.1)) : Sim bs p b ((r.1, r'.1), r'.2) (cPair f g) := by
  refine ⟨fun hb => h'.stay (h.stay hb), fun hb hr => ?_, fun hr => ?_, h'.at_, fun hr => Nat.le_trans (h.le (h'.good hr)) (h'.le hr)⟩
  · cases hd : r.2.2 with
    | true => exact cPair_no (h.bad hb hd)
    | false => rw [cPair_yes (h.ok hd), h'.bad hd hr]
  · have hd := h'.good hr
    rw [cPair_yes (h.ok hd), h'.ok hr]
theorem Sim.map {α β : Type} {bs : List Int} {p : Nat} {b : Bool} {r : α × Nat × Bool} {f : List Int → Option (α × List Int)} (h : Sim bs p b r f) (g : α → β) : Sim bs p b (g r.1, r.2) (cMap g f) :=
  ⟨h.stay, fun hb hr => cMap_no (h.bad hb hr), fun hr => cMap_yes (h.ok hr), h.at_, h.le⟩
theorem Sim.none {α : Type} {bs : List Int} {p q : Nat} {b : Bool} {x : α} {f : List Int → Option (α × List Int)} (hq : q ≤ bs.length) (h : f (bs.drop p) = none) : Sim bs p b (x, q, true) f :=
  ⟨fun _ => rfl, fun _ _ => h, fun hr => by simp at hr, hq, fun hr => by simp at hr⟩
theorem Sim.some {α : Type} {bs : List Int} {p q : Nat} {b : Bool} {x : α} {f : List Int → Option (α × List Int)} (hq : q ≤ bs.length) (hp : p ≤ q) (h : f (bs.drop p) = some (x, bs.drop q)) : Sim bs p b (x, q, b) f :=
  ⟨fun hb => hb, fun hb hr => (by simp only at hr; rw [hb] at hr; cases hr), fun _ => h, hq, fun _ => hp⟩
theorem qNum_none {bs : List Int} {p : Nat} (b : Bool) (h : dec64 (bs.drop p) = none) : qNum bs p b = (0, 0, true) := by unfold qNum; rw [h]
theorem qNum_some {bs : List Int} {p n s : Nat} (b : Bool) (h : dec64 (bs.drop p) = some (n, s)) : qNum bs p b = (n, p + s, b) := by unfold qNum; rw [h]
theorem qNum_lt {bs : List Int} (p : Nat) (b : Bool) (ho : Okb bs) : (qNum bs p b).1 < 18446744073709551616 := by
  cases h : dec64 (bs.drop p) with
  | none => rw [qNum_none b h]; show 0 < _; omega
  | some a =>
    obtain ⟨n, s⟩ := a
    rw [qNum_some b h]
    exact (dec64_take _ (ho.drop p) n s h).2.2.2.2.1
theorem sim_num {bs : List Int} (ho : Okb bs) {p : Nat} (hp : p ≤ bs.length) (b : Bool) : Sim bs p b (qNum bs p b) cNum := by
  cases h : dec64 (bs.drop p) with
  | none => rw [qNum_none b h]; exact Sim.none (Nat.zero_le _) (cNum_none h)
  | some a =>
    obtain ⟨n, s⟩ := a
    rw [qNum_some b h]
    have := (dec64_take _ (ho.drop p) n s h).2.2.2.1
    rw [List.length_drop] at this
    exact Sim.some (by omega) (by omega) (by rw [cNum_some h, drop_drop2])
theorem lt_num {bs : List Int} (ho : Okb bs) {p : Nat} {b : Bool} (hr : (qNum bs p b).2.2 = false) : p < (qNum bs p b).2.1 := by
  cases h : dec64 (bs.drop p) with
  | none => rw [qNum_none b h] at hr; simp at hr
  | some a =>
    obtain ⟨n, s⟩ := a
    rw [qNum_some b h]
    have := (dec64_take _ (ho.drop p) n s h).2.2.1
    show p < p + s
    omega
theorem sim_nat {bs : List Int} (ho : Okb bs) (M : Nat) {p : Nat} (hp : p ≤ bs.length) (b : Bool) : Sim bs p b (qNat bs M p b) (cNat M) := by
  have h := sim_num ho hp b
  unfold qNat
  by_cases hn : M < (qNum bs p b).1
  · rw [if_pos hn]
    refine ⟨fun _ => rfl, fun hb _ => ?_, fun hr => by simp at hr, h.at_, fun hr => by simp at hr⟩
    cases hd : (qNum bs p b).2.2 with
    | true => exact cOnly_no (h.bad hb hd)
    | false => unfold cNat; rw [cOnly_yes (h.ok hd), if_neg (by simp; omega)]
  · rw [if_neg hn]
    refine ⟨h.stay, fun hb hr => cOnly_no (h.bad hb hr), fun hr => ?_, h.at_, h.le⟩
    unfold cNat
    rw [cOnly_yes (h.ok hr), if_pos (by simp; omega)]
theorem nat_le (bs : List Int) (M p : Nat) (b : Bool) : (qNat bs M p b).1 ≤ M := by
  unfold qNat
  by_cases hn : M < (qNum bs p b).1
  · rw [if_pos hn]; exact Nat.zero_le _
  · rw [if_neg hn]; omega
theorem lt_nat {bs : List Int} (ho : Okb bs) {M p : Nat} {b : Bool} (hr : (qNat bs M p b).2.2 = false) : p < (qNat bs M p b).2.1 ∧ qNat bs M p b = qNum bs p b := by
  unfold qNat at hr ⊢
  by_cases hn : M < (qNum bs p b).1
  · rw [if_pos hn] at hr; simp at hr
  · rw [if_neg hn] at hr ⊢; exact ⟨lt_num ho hr, rfl⟩
theorem sim_txt {bs : List Int} (ho : Okb bs) {p : Nat} (hp : p ≤ bs.length) (b : Bool) : Sim bs p b (qTxt bs p b) cBytes := by
  unfold qTxt
  cases h : dec64 (bs.drop p) with
  | none => exact Sim.none (Nat.zero_le _) (by unfold cBytes; rw [cNum_none h])
  | some a =>
    obtain ⟨n, s⟩ := a
    have hs := (dec64_take _ (ho.drop p) n s h).2.2.2.1
    rw [List.length_drop] at hs
    have hl : ((bs.drop p).drop s).length = bs.length - (p + s) := by rw [drop_drop2, List.length_drop]
    simp only
    by_cases hn : n ≤ bs.length - (p + s)
    · rw [if_pos hn]
      refine Sim.some (by omega) (by omega) ?_
      unfold cBytes
      rw [cNum_some h]
      simp only
      rw [if_pos (by rw [hl]; exact hn), drop_drop2, drop_drop2]
    · rw [if_neg hn]
      refine Sim.none (Nat.zero_le _) ?_
      unfold cBytes
      rw [cNum_some h]
      simp only
      rw [if_neg (by rw [hl]; exact hn)]
theorem sim_run {bs : List Int} (ho : Okb bs) {p : Nat} (hp : p ≤ bs.length) (b : Bool) : Sim bs p b (qRun bs p b) cRunes := by
  have h := sim_txt ho hp b
  unfold qRun
  cases hr : readL (bl (qTxt bs p b).1) with
  | none =>
    refine ⟨fun _ => rfl, fun hb _ => ?_, fun hq => by simp at hq, h.at_, fun hq => by simp at hq⟩
    cases hd : (qTxt bs p b).2.2 with
    | true => exact cRunes_no (h.bad hb hd)
    | false => exact cRunes_bad (h.ok hd) hr
  | some rs => exact ⟨h.stay, fun hb hq => cRunes_no (h.bad hb hq), fun hq => cRunes_yes (h.ok hq) hr, h.at_, h.le⟩
theorem sim_val {bs : List Int} (ho : Okb bs) {p : Nat} (hp : p ≤ bs.length) (k : Nat) (b : Bool) : Sim bs p b (qVal bs k p b) (cValP k) := by
  unfold qVal cValP
  by_cases h1 : k = 1 ∨ k = 2
  · rw [if_pos h1, if_pos h1]; exact (sim_num ho hp b).map (fun n : Nat => (⟨k, zag n, 0, ⟨#[]⟩⟩ : Vl))
  rw [if_neg h1, if_neg h1]
  by_cases h3 : k = 3
  · rw [if_pos h3, if_pos h3]; exact (sim_num ho hp b).map (fun n : Nat => (⟨3, 0, n, ⟨#[]⟩⟩ : Vl))
  rw [if_neg h3, if_neg h3]
  by_cases h4 : k = 4
  · rw [if_pos h4, if_pos h4]; exact (sim_txt ho hp b).map (fun x : List Int => (⟨4, 0, 0, strOfNums x⟩ : Vl))
  · rw [if_neg h4, if_neg h4]
    exact Sim.some hp (Nat.le_refl _) rfl
theorem sim_vl {bs : List Int} (ho : Okb bs) {p : Nat} (hp : p ≤ bs.length) (b : Bool) : Sim bs p b (qVl bs p b) cVlP :=
  ((sim_nat ho 255 hp b).pair (g := cValP) (sim_val ho (sim_nat ho 255 hp b).at_ _ _)).map (fun z : Nat × Vl => z.2)
theorem sim_att {bs : List Int} (ho : Okb bs) {p : Nat} (hp : p ≤ bs.length) (b : Bool) : Sim bs p b (qAtt bs p b) cAttP :=
  ((sim_nat ho 9223372036854775807 hp b).pair (g := fun _ => cVlP) (sim_vl ho (sim_nat ho 9223372036854775807 hp b).at_ _)).map attOf
theorem sim_chg {bs : List Int} (ho : Okb bs) {p : Nat} (hp : p ≤ bs.length) (b : Bool) : Sim bs p b (qChg bs p b) cChgP :=
  ((sim_nat ho 9223372036854775807 hp b).pair (g := fun _ => cVlP) (sim_vl ho (sim_nat ho 9223372036854775807 hp b).at_ _)).map chgOf
theorem lt_vl {bs : List Int} (ho : Okb bs) {p q : Nat} {b d : Bool} (hp : p ≤ bs.length) (hk : (qKey bs p b).2.2 = false → q = (qKey bs p b).2.1 ∧ d = false) (hd : d = false → (qKey bs p b).2.2 = false) (hq : q ≤ bs.length) (hr : (qVl bs q d).2.2 = false) : p < (qVl bs q d).2.1 := by
  have h2 := sim_vl ho hq d
  have h3 := hd (h2.good hr)
  have h4 := (lt_nat ho h3).1
  obtain ⟨h5, -⟩ := hk h3
  have h6 := h2.le hr
  unfold qKey at h5
  omega
theorem lt_att {bs : List Int} (ho : Okb bs) {p : Nat} {b : Bool} (hp : p ≤ bs.length) (hr : (qAtt bs p b).2.2 = false) : p < (qAtt bs p b).2.1 :=
  lt_vl ho hp (fun h => ⟨rfl, h⟩) (fun h => h) (sim_nat ho 9223372036854775807 hp b).at_ hr
theorem lt_chg {bs : List Int} (ho : Okb bs) {p : Nat} {b : Bool} (hp : p ≤ bs.length) (hr : (qChg bs p b).2.2 = false) : p < (qChg bs p b).2.1 :=
  lt_vl ho hp (fun h => ⟨rfl, h⟩) (fun h => h) (sim_nat ho 9223372036854775807 hp b).at_ hr
theorem sim_many {α : Type} {bs : List Int} {f : Nat → Bool → α × Nat × Bool} {g : List Int → Option (α × List Int)} (hf : ∀ p b, p ≤ bs.length → Sim bs p b (f p b) g) : ∀ (k p : Nat) (b : Bool), p ≤ bs.length → Sim bs p b (sMany f k p b) (cMany g k)
  | 0, p, b, hp => Sim.some hp (Nat.le_refl _) rfl
  | k + 1, p, b, hp => by
    cases b with
    | true =>
      rw [sMany_bad]
      exact ⟨fun _ => rfl, fun hb => by simp at hb, fun hr => by simp at hr, hp, fun _ => Nat.le_refl _⟩
    | false =>
      have h1 := hf p false hp
      have h2 := sim_many hf k (f p false).2.1 (f p false).2.2 h1.at_
      rw [sMany_yes]
      refine ⟨fun hb => by simp at hb, fun _ hr => ?_, fun hr => ?_, h2.at_, fun hr => Nat.le_trans (h1.le (h2.good hr)) (h2.le hr)⟩
      · cases hd : (f p false).2.2 with
        | true => exact cMany_no (h1.bad rfl hd)
        | false => rw [cMany_yes (h1.ok hd), h2.bad hd hr]
      · have hd := h2.good hr
        rw [cMany_yes (h1.ok hd), h2.ok hr]
theorem many_le {α : Type} {bs : List Int} {f : Nat → Bool → α × Nat × Bool} {g : List Int → Option (α × List Int)} (hf : ∀ p b, p ≤ bs.length → Sim bs p b (f p b) g) (hm : ∀ p b, p ≤ bs.length → (f p b).2.2 = false → p < (f p b).2.1) : ∀ (k p : Nat) (b : Bool), p ≤ bs.length → (sMany f k p b).2.2 = false → p + k ≤ (sMany f k p b).2.1
  | 0, p, b, hp, _ => by rw [sMany_0]; exact Nat.le_refl _
  | k + 1, p, b, hp, hr => by
    cases b with
    | true => rw [sMany_bad] at hr; simp at hr
    | false =>
      have h1 := hf p false hp
      rw [sMany_yes] at hr ⊢
      have h2 := many_le hf hm k (f p false).2.1 (f p false).2.2 h1.at_ hr
      have h3 := hm p false hp ((sim_many hf k _ _ h1.at_).good hr)
      show p + (k + 1) ≤ (sMany f k (f p false).2.1 (f p false).2.2).2.1
      omega
theorem sim_list {α : Type} {bs : List Int} (ho : Okb bs) {f : Nat → Bool → α × Nat × Bool} {g : List Int → Option (α × List Int)} (hf : ∀ p b, p ≤ bs.length → Sim bs p b (f p b) g) (hm : ∀ p b, p ≤ bs.length → (f p b).2.2 = false → p < (f p b).2.1) {p : Nat} (hp : p ≤ bs.length) (b : Bool) :
    Sim bs p b (qList bs f p b) (cList g) := by
  have h0 := sim_num ho hp b
  unfold qList qNat
  by_cases hn : bs.length < (qNum bs p b).1
  · rw [if_pos hn]
    simp only
    rw [sMany_0]
    refine ⟨fun _ => rfl, fun hb _ => ?_, fun hr => by simp at hr, h0.at_, fun hr => by simp at hr⟩
    cases hd : (qNum bs p b).2.2 with
    | true => exact cList_no (h0.bad hb hd)
    | false =>
      rw [cList_yes (h0.ok hd)]
      have h1 := sim_many hf (qNum bs p b).1 (qNum bs p b).2.1 false h0.at_
      refine h1.bad rfl ?_
      cases hx : (sMany f (qNum bs p b).1 (qNum bs p b).2.1 false).2.2 with
      | true => rfl
      | false =>
        have h2 := many_le hf hm (qNum bs p b).1 (qNum bs p b).2.1 false h0.at_ hx
        have := h1.at_
        omega
  · rw [if_neg hn]
    exact (h0.pair (g := fun k => cMany g k) (sim_many hf _ _ _ h0.at_)).map (fun z : Nat × List α => z.2)
theorem sim_opK {bs : List Int} (ho : Okb bs) (k : Nat) {p : Nat} (hp : p ≤ bs.length) (b : Bool) : Sim bs p b (qOpK bs k p b) (cKindP k) := by
  have hk := sim_nat ho 9223372036854775807 hp b
  unfold qOpK cKindP
  by_cases h1 : k = 1
  · rw [if_pos h1, if_pos h1]
    exact (hk.pair (g := fun _ => cList cChgP) (sim_list ho (fun p b hp => sim_chg ho hp b) (fun p b hp hr => lt_chg ho hp hr) hk.at_ _)).map opR
  rw [if_neg h1, if_neg h1]
  by_cases h2 : k = 2
  · rw [if_pos h2, if_pos h2]
    exact ((sim_run ho hp b).pair (g := fun _ => cList cAttP) (sim_list ho (fun p b hp => sim_att ho hp b) (fun p b hp hr => lt_att ho hp hr) (sim_run ho hp b).at_ _)).map opI
  rw [if_neg h2, if_neg h2]
  by_cases h3 : k = 3
  · rw [if_pos h3, if_pos h3]
    exact hk.map opD
  · rw [if_neg h3, if_neg h3]
    exact Sim.some hp (Nat.le_refl _) rfl
theorem sim_op {bs : List Int} (ho : Okb bs) {p : Nat} (hp : p ≤ bs.length) (b : Bool) : Sim bs p b (qOp bs p b) cOpP :=
  ((sim_nat ho 255 hp b).pair (g := cKindP) (sim_opK ho _ (sim_nat ho 255 hp b).at_ _)).map (fun z : Nat × Opn => z.2)
theorem lt_op {bs : List Int} (ho : Okb bs) {p : Nat} {b : Bool} (hp : p ≤ bs.length) (hr : (qOp bs p b).2.2 = false) : p < (qOp bs p b).2.1 := by
  have h1 := sim_nat ho 255 hp b
  have h2 := sim_opK ho (qNat bs 255 p b).1 h1.at_ (qNat bs 255 p b).2.2
  have h3 := (lt_nat ho (h2.good hr)).1
  have := h2.le hr
  show p < (qOpK bs _ _ _).2.1
  omega
theorem sim_ops {bs : List Int} (ho : Okb bs) : Sim bs 0 false (qOps bs) (cList cOpP) := sim_list ho (fun p b hp => sim_op ho hp b) (fun p b hp hr => lt_op ho hp hr) (Nat.zero_le _) false
/-- All bytes. -/
theorem allP_ops {bs : List Int} (ho : Okb bs) : cAllP bs = if (qOps bs).2.2 = true ∨ (qOps bs).2.1 ≠ bs.length then none else some (qOps bs).1 := by
  have h := sim_ops ho
  unfold cAllP
  cases hd : (qOps bs).2.2 with
  | true =>
    have hb := h.bad rfl hd
    rw [List.drop_zero] at hb
    rw [hb, if_pos (.inl rfl)]
  | false =>
    have hk := h.ok hd
    rw [List.drop_zero] at hk
    rw [hk]
    have hle := h.at_
    by_cases he : (qOps bs).2.1 = bs.length
    · rw [if_neg (by simp [he])]
      simp only
      rw [if_pos (by rw [he]; simp)]
    · rw [if_pos (.inr he)]
      simp only
      rw [if_neg]
      intro hh
      have := congrArg List.length hh
      rw [List.length_drop] at this
      simp at this
      omega
/-- What is told lies within its kinds. -/
theorem many_all {α : Type} {bs : List Int} {f : Nat → Bool → α × Nat × Bool} {P : α → Prop} (hp : ∀ p b, p ≤ bs.length → (f p b).2.1 ≤ bs.length ∧ P (f p b).1) : ∀ (k p : Nat) (b : Bool), p ≤ bs.length → (sMany f k p b).1.length ≤ k ∧ ∀ x ∈ (sMany f k p b).1, P x
  | 0, p, b, h => by rw [sMany_0]; simp
  | k + 1, p, b, h => by
    cases b with
    | true => rw [sMany_bad]; simp
    | false =>
      obtain ⟨h1, h2⟩ := hp p false h
      obtain ⟨h3, h4⟩ := many_all hp k (f p false).2.1 (f p false).2.2 h1
      rw [sMany_yes]
      refine ⟨by rw [List.length_cons]; omega, fun x hx => ?_⟩
      rcases List.mem_cons.1 hx with rfl | hx
      · exact h2
      · exact h4 x hx
theorem qtxt_len {bs : List Int} (ho : Okb bs) {p : Nat} (b : Bool) : (qTxt bs p b).1.length ≤ bs.length ∧ Okb (qTxt bs p b).1 := by
  unfold qTxt
  cases h : dec64 (bs.drop p) with
  | none => exact ⟨Nat.zero_le _, okb_nil⟩
  | some a =>
    obtain ⟨n, s⟩ := a
    simp only
    by_cases hn : n ≤ bs.length - (p + s)
    · rw [if_pos hn]
      refine ⟨?_, (ho.drop _).take _⟩
      show ((bs.drop (p + s)).take n).length ≤ _
      rw [List.length_take, List.length_drop]; omega
    · rw [if_neg hn]; exact ⟨Nat.zero_le _, okb_nil⟩
theorem qrun_all {bs : List Int} (ho : Okb bs) {p : Nat} (b : Bool) : (qRun bs p b).1.length ≤ bs.length ∧ ∀ x ∈ (qRun bs p b).1, 0 ≤ x ∧ x ≤ 1114111 := by
  have h := (qtxt_len ho (p := p) b).1
  unfold qRun
  cases hr : readL (bl (qTxt bs p b).1) with
  | none => exact ⟨Nat.zero_le _, fun x hx => by cases hx⟩
  | some rs =>
    obtain ⟨h1, -, h3⟩ := read_back hr
    refine ⟨by show rs.length ≤ _; omega, fun x hx => ?_⟩
    have := (allMay_iff rs).1 h1 x hx
    exact ⟨this.1, this.2.1⟩
@[reducible] def VR (bs : List Int) (v : Vl) : Prop := (0 ≤ v.k ∧ v.k ≤ 255) ∧ (-9223372036854775808 ≤ v.n ∧ v.n ≤ 9223372036854775807) ∧ (0 ≤ v.f ∧ v.f < 18446744073709551616) ∧ v.s.size ≤ bs.length
theorem qval_rng {bs : List Int} (ho : Okb bs) {k : Nat} (hk : k ≤ 255) (p : Nat) (b : Bool) : VR bs (qVal bs k p b).1 := by
  have hn := qNum_lt p b ho
  have hz := zag_rng hn
  unfold qVal VR
  by_cases h1 : k = 1 ∨ k = 2
  · rw [if_pos h1]
    refine ⟨?_, hz, ?_, Nat.zero_le _⟩
    · simp only; omega
    · simp only; omega
  rw [if_neg h1]
  by_cases h3 : k = 3
  · rw [if_pos h3]
    refine ⟨?_, ?_, ?_, Nat.zero_le _⟩
    · simp only; omega
    · simp only; omega
    · simp only; omega
  rw [if_neg h3]
  by_cases h4 : k = 4
  · rw [if_pos h4]
    obtain ⟨l1, l2⟩ := qtxt_len ho (p := p) b
    refine ⟨?_, ?_, ?_, ?_⟩
    · simp only; omega
    · simp only; omega
    · simp only; omega
    · have : (strOfNums (qTxt bs p b).1).size = (qTxt bs p b).1.length := by rw [← nu_len, nu_str l2]
      show (strOfNums (qTxt bs p b).1).size ≤ _
      omega
  · rw [if_neg h4]
    refine ⟨?_, ?_, ?_, Nat.zero_le _⟩
    · simp only; omega
    · simp only; omega
    · simp only; omega
theorem qvl_rng {bs : List Int} (ho : Okb bs) (p : Nat) (b : Bool) : VR bs (qVl bs p b).1 := qval_rng ho (nat_le bs 255 p b) _ _
theorem qatt_w {bs : List Int} (ho : Okb bs) (hl : bs.length ≤ 50000000) (p : Nat) (b : Bool) : AttW (qAtt bs p b).1 := by
  obtain ⟨h1, h2, h3, h4⟩ := qvl_rng ho (qKey bs p b).2.1 (qKey bs p b).2.2
  have hk : (qKey bs p b).1 ≤ 9223372036854775807 := nat_le bs _ p b
  exact ⟨wf64 (by simp only [qAtt, attOf]; omega), wfu8 ⟨h1.1, by have := h1.2; simp only [qAtt, attOf]; omega⟩, wf64 h2, wfu64 h3, by simp only [qAtt, attOf, maxLen]; omega⟩
theorem qchg_w {bs : List Int} (ho : Okb bs) (hl : bs.length ≤ 50000000) (p : Nat) (b : Bool) : ChgW (qChg bs p b).1 := by
  obtain ⟨h1, h2, h3, h4⟩ := qvl_rng ho (qKey bs p b).2.1 (qKey bs p b).2.2
  have hk : (qKey bs p b).1 ≤ 9223372036854775807 := nat_le bs _ p b
  exact ⟨wf64 (by simp only [qChg, chgOf]; omega), wfu8 ⟨h1.1, by have := h1.2; simp only [qChg, chgOf]; omega⟩, wf64 h2, wfu64 h3, by simp only [qChg, chgOf, maxLen]; omega⟩
theorem qop_w {bs : List Int} (ho : Okb bs) (hl : bs.length ≤ 50000000) {p : Nat} (hp : p ≤ bs.length) (b : Bool) {z : Oz} (hz : z.o = (qOp bs p b).1) : OpW z := by
  have hk : (qNat bs 255 p b).1 ≤ 255 := nat_le bs _ p b
  have h1 := (sim_nat ho 255 hp b).at_
  have e : z.o = (qOpK bs (qNat bs 255 p b).1 (qNat bs 255 p b).2.1 (qNat bs 255 p b).2.2).1 := hz
  generalize (qNat bs 255 p b).1 = k at *
  generalize (qNat bs 255 p b).2.1 = q at *
  generalize (qNat bs 255 p b).2.2 = d at *
  clear hz
  have ek : z.o.k = z.k := rfl
  have en : z.o.n = z.n := rfl
  have er : z.o.rs = z.rs := rfl
  have es : z.o.st = z.st := rfl
  have ep : z.o.pt = z.pt := rfl
  have hn : (qKey bs q d).1 ≤ 9223372036854775807 := nat_le bs _ q d
  have hq1 := (sim_nat ho 9223372036854775807 h1 d).at_
  unfold qOpK at e
  by_cases k1 : k = 1
  · rw [if_pos k1] at e
    have e2 : z.o = opR ((qKey bs q d).1, (qList bs (qChg bs) (qKey bs q d).2.1 (qKey bs q d).2.2).1) := e
    unfold opR at e2
    rw [e2] at ek en er es ep
    simp only at ek en er es ep
    refine ⟨wfu8 (by omega), wf64 (by omega), fun x hx => (by rw [← er] at hx; cases hx), fun x hx => (by rw [← es] at hx; cases hx), fun c hc => ?_⟩
    rw [← ep] at hc
    exact (many_all (P := ChgW) (fun p b hp => ⟨(sim_chg ho hp b).at_, qchg_w ho hl p b⟩) _ _ _ (sim_nat ho bs.length hq1 _).at_).2 c hc
  rw [if_neg k1] at e
  by_cases k2 : k = 2
  · rw [if_pos k2] at e
    have e2 : z.o = opI ((qRun bs q d).1, (qList bs (qAtt bs) (qRun bs q d).2.1 (qRun bs q d).2.2).1) := e
    unfold opI at e2
    rw [e2] at ek en er es ep
    simp only at ek en er es ep
    refine ⟨wfu8 (by omega), wf64 (by omega), fun x hx => ?_, fun a ha => ?_, fun c hc => (by rw [← ep] at hc; cases hc)⟩
    · rw [← er] at hx; exact wf32 ((qrun_all ho d).2 x hx)
    · rw [← es] at ha
      exact (many_all (P := AttW) (fun p b hp => ⟨(sim_att ho hp b).at_, qatt_w ho hl p b⟩) _ _ _ (sim_nat ho bs.length (sim_run ho h1 d).at_ _).at_).2 a ha
  rw [if_neg k2] at e
  by_cases k3 : k = 3
  · rw [if_pos k3] at e
    have e2 : z.o = opD (qKey bs q d).1 := e
    unfold opD at e2
    rw [e2] at ek en er es ep
    simp only at ek en er es ep
    exact ⟨wfu8 (by omega), wf64 (by omega), fun x hx => (by rw [← er] at hx; cases hx), fun x hx => (by rw [← es] at hx; cases hx), fun c hc => (by rw [← ep] at hc; cases hc)⟩
  · rw [if_neg k3] at e
    rw [e] at ek en er es ep
    simp only at ek en er es ep
    exact ⟨wfu8 (by omega), wf64 (by omega), fun x hx => (by rw [← er] at hx; cases hx), fun x hx => (by rw [← es] at hx; cases hx), fun c hc => (by rw [← ep] at hc; cases hc)⟩
theorem qops_w {bs : List Int} (ho : Okb bs) (hl : bs.length ≤ 50000000) {zs : List Oz} (h : zs.map Oz.o = (qOps bs).1) : zs.length ≤ bs.length ∧ ∀ z ∈ zs, OpW z := by
  have hx := many_all (f := qOp bs) (P := fun o => ∀ z : Oz, z.o = o → OpW z) (fun p b hp => ⟨(sim_op ho hp b).at_, fun z hz => qop_w ho hl hp b hz⟩) (qNat bs bs.length 0 false).1 (qNat bs bs.length 0 false).2.1 (qNat bs bs.length 0 false).2.2 (sim_nat ho bs.length (Nat.zero_le _) false).at_
  have hn := nat_le bs bs.length 0 false
  refine ⟨?_, fun z hz => ?_⟩
  · have e := congrArg List.length h
    rw [List.length_map] at e
    have := hx.1
    show zs.length ≤ _
    unfold qOps qList at e
    omega
  · refine hx.2 z.o ?_ z rfl
    have hm : z.o ∈ zs.map Oz.o := List.mem_map_of_mem hz
    rw [h] at hm
    exact hm
end Go.Proofs.YtohgopibimgjfaaGreat

/- Q3: the program's reader in memory -/
namespace Go.Proofs.YtohgopibimgjfaaGreat
open Go.RowKit
set_option linter.unusedVariables false
set_option maxRecDepth 100000

/-- A reader: its bytes, the place, and whether something is amiss. -/
structure Rd (bm : Nat) (va : Option Addr) (c : Nat) (bs : List Int) (p : Nat) (b : Bool) (W : World) : Prop where
  cell : Cb bm 76 (moC va bs.length c p b) W
  row : Ints .u8 W (.slice va bs.length c) bs
  ne : Na (fun k => k = bm) va bs.length
  okb : Okb bs
  len : bs.length ≤ 50000000
  at_ : p ≤ bs.length
section
variable {bm c p q : Nat} {va : Option Addr} {bs : List Int} {b d : Bool} {W W2 : World} {S : Nat → Prop}
theorem Rd.off (h : Rd bm va c bs p b W) (ho : Off S W W2) (hS : ¬ S bm) (hn : Na S va bs.length) : Rd bm va c bs p b W2 := ⟨h.cell.off ho hS, h.row.off ho hn, h.ne, h.okb, h.len, h.at_⟩
theorem Rd.below (h : Rd bm va c bs p b W) (hb : Below W.heap.size W W2) : Rd bm va c bs p b W2 := ⟨h.cell.below hb, h.row.below hb, h.ne, h.okb, h.len, h.at_⟩
theorem Rd.cells (h : Rd bm va c bs p b W) : W.cell? ⟨bm, 0, none⟩ = some (.slice va bs.length c) ∧ W.cell? ⟨bm, 1, none⟩ = some (.int .i64 p) ∧ W.cell? ⟨bm, 2, none⟩ = some (.bool b) ∧ W.frozen? ⟨bm, 1, none⟩ = false ∧ W.frozen? ⟨bm, 2, none⟩ = false := ⟨h.cell.cell 0, h.cell.cell 1, h.cell.cell 2, h.cell.frozen 1, h.cell.frozen 2⟩
theorem Rd.setB (h : Rd bm va c bs p b W) (d : Bool) : Rd bm va c bs p d (W.setCell ⟨bm, 2, none⟩ (.bool d)) ∧ Off (fun k => k = bm) W (W.setCell ⟨bm, 2, none⟩ (.bool d)) :=
  ⟨⟨heap_set _ h.cell, h.row.off (mo_off _ _) h.ne, h.ne, h.okb, h.len, h.at_⟩, mo_off _ _⟩
theorem Rd.setP (h : Rd bm va c bs p b W) (hq : q ≤ bs.length) : Rd bm va c bs q b (W.setCell ⟨bm, 1, none⟩ (.int .i64 q)) ∧ Off (fun k => k = bm) W (W.setCell ⟨bm, 1, none⟩ (.int .i64 q)) :=
  ⟨⟨heap_set _ h.cell, h.row.off (mo_off _ _) h.ne, h.ne, h.okb, h.len, hq⟩, mo_off _ _⟩
end
/-- A call's end. -/
def RdP (bm : Nat) (va : Option Addr) (c : Nat) (bs : List Int) (w : World) (v : Value) (p : Nat) (b : Bool) (e : Ending) (w' : World) : Prop := e = .returned v ∧ Rd bm va c bs p b w' ∧ Off (fun k => k = bm) w w'
def RdC (w : World) (bm : Nat) (va : Option Addr) (c : Nat) (bs : List Int) (p : Nat) (b : Bool) (W : World) : Prop := Rd bm va c bs p b W ∧ Below w.heap.size w W
theorem RdP.seq {bm : Nat} {va : Option Addr} {c : Nat} {bs : List Int} {w w1 : World} {v : Value} {p : Nat} {b : Bool} {e : Ending} {w2 : World} (ho : Off (fun k => k = bm) w w1) (h : RdP bm va c bs w1 v p b e w2) : RdP bm va c bs w v p b e w2 := ⟨h.1, h.2.1, ho.seq h.2.2⟩

set_option maxHeartbeats 1000000 in
theorem note_any (bm : Nat) (va : Option Addr) (c : Nat) (bs : List Int) (p : Nat) (b : Bool) (x : Int) (w : World) (h : Rd bm va c bs p b w) :
    Calls Tryz.prog 106 #[.pointer (some ⟨bm, 0, none⟩), .int .i64 x] w (RdP bm va c bs w (.tuple #[]) p (b || !(x == 0))) := by
  obtain ⟨c0, c1, c2, c3, c4⟩ := h.cells
  have HM := Lib.hid h
  clear h
  cases b with
  | true =>
    go_enter Tryz.func106, Tryz.ntmps106
    go_wp2
    go_end0
    exact ⟨rfl, HM.out.setB _⟩
  | false =>
    by_cases hx : x = 0
    · subst hx
      go_enter Tryz.func106, Tryz.ntmps106
      go_wp2
      go_end0
      exact ⟨rfl, HM.out.setB _⟩
    · have d1 : (x == 0) = false := by simpa using hx
      have d2 : (x != 0) = true := by simpa using hx
      rw [d1]
      clear hx
      go_enter Tryz.func106, Tryz.ntmps106
      go_wp2
      go_end0
      exact ⟨rfl, HM.out.setB _⟩
set_option maxHeartbeats 1000000 in
theorem goOn_any (bm : Nat) (va : Option Addr) (c : Nat) (bs : List Int) (p q : Nat) (b : Bool) (x : Int) (w : World) (h : Rd bm va c bs p b w) (hq : q ≤ bs.length) :
    Calls Tryz.prog 129 #[.pointer (some ⟨bm, 0, none⟩), .int .i64 q, .int .i64 x] w (RdP bm va c bs w (.tuple #[]) q (b || !(x == 0))) := by
  obtain ⟨c0, c1, c2, c3, c4⟩ := h.cells
  obtain ⟨h1, h2⟩ := h.setP hq
  have HN := Lib.hid (note_any bm va c bs q b x _ h1)
  have HO := Lib.hid h2
  clear h h1 h2 hq
  go_enter Tryz.func129, Tryz.ntmps129
  go_wp2_with (go_at_call 106; refine HN.out.mono ?_; rintro e w1 ⟨rfl, hm, ho⟩; have HM1 := Lib.hid hm; have HO1 := Lib.hid ho; clear hm ho)
  go_end0
  exact ⟨rfl, HM1.out, HO.out.seq HO1.out⟩
theorem UintIs.eq {bs : List Int} {p : Int} {w : World} {E : Int} {n x : Nat} (h1 : uErr bs p = E) (h2 : uNum bs p = n) (h3 : uNxt bs p = x) : UintIs bs p w = fun e w' => e = .returned (.tuple #[.int .u64 n, .int .i64 x, .int .i64 E]) ∧ w = w' := by
  funext e w'
  unfold UintIs
  rw [h1, h2, h3]
set_option maxHeartbeats 4000000 in
theorem natural_any (bm : Nat) (va : Option Addr) (c : Nat) (bs : List Int) (M p : Nat) (b : Bool) (w : World) (h : Rd bm va c bs p b w) :
    Calls Tryz.prog 100 #[.pointer (some ⟨bm, 0, none⟩), .int .u64 M] w (RdP bm va c bs w (.int .u64 (qNat bs M p b).1) (qNat bs M p b).2.1 (qNat bs M p b).2.2) := by
  have HU := Lib.hid (fun W (hC : RdC w bm va c bs p b W) => (uint_any _ bs p W hC.1.row hC.1.okb (Nat.le_trans hC.1.len (by omega))))
  have HC := Lib.hid (show RdC w bm va c bs p b w.drew from ⟨h.below (Below.refl _ _).drew, (Below.refl _ _).drew⟩)
  have hp := h.at_
  have hnum : ∃ n q : Nat, ∃ x : Int, qNum bs p b = (n, q, b || !(x == 0)) ∧ q ≤ bs.length ∧ uErr bs p = x ∧ uNum bs p = n ∧ uNxt bs p = q := by
    cases hd : dec64 (bs.drop p) with
    | none =>
      obtain ⟨u1, u2, u3⟩ := u_none hp hd
      exact ⟨0, 0, 3, by rw [qNum_none b hd]; simp, Nat.zero_le _, u1, u2, u3⟩
    | some a =>
      obtain ⟨n, s⟩ := a
      obtain ⟨u1, u2, u3⟩ := u_some hp hd
      have hs := (dec64_take _ (h.okb.drop p) n s hd).2.2.2.1
      rw [List.length_drop] at hs
      exact ⟨n, p + s, 0, by rw [qNum_some b hd]; simp, by omega, u1, u2, u3⟩
  obtain ⟨n, q, x, hq, hql, u1, u2, u3⟩ := hnum
  unfold qNat
  rw [hq]
  simp only
  have KN := Lib.hid (fun W (hC : RdC w bm va c bs p b W) => (show Calls _ _ _ _ _ from (HU.out W hC).mono fun e w' hz => (by rw [UintIs.eq u1 u2 u3] at hz; obtain ⟨hz1, rfl⟩ := hz; exact ⟨hz1, hC⟩ : e = .returned (.tuple #[.int .u64 n, .int .i64 q, .int .i64 x]) ∧ RdC w bm va c bs p b w')))
  have HQ := Lib.hid hql
  clear h hq hql u1 u2 u3 hp HU
  by_cases hn : M < n
  · rw [if_pos hn]
    have d1 : decide (M < n) = true := decide_eq_true hn
    clear hn
    go_enter Tryz.func100, Tryz.ntmps100
    go_wp2_with fail
    refine region_classw (C := RdC w bm va c bs p b) (by kernel_rfl) (by kernel_rfl) HC.out ?_
    repeat (first
      | (refine w_val (v := ?_) (by rfl) (fun w9 hS => ?_) ?_
         rotate_left
         · obtain ⟨c0, c1, c2, c3, c4⟩ := hS.1.cells
           go_simp
           try with_reducible rfl
         simp only [Act.put, List.setIfInBounds_toArray, List.set_cons_zero, List.set_cons_succ])
      | (refine w_call (by rfl) (fun w9 hS => ?_) KN.out ?_
         · obtain ⟨c0, c1, c2, c3, c4⟩ := hS.1.cells
           go_simp
         simp only [Act.put, List.setIfInBounds_toArray, List.set_cons_zero, List.set_cons_succ]))
    refine w_end ?_
    intro w1 T1
    have HM1 := Lib.hid T1.1
    have HB := Lib.hid T1.2
    clear T1
    have HG := Lib.hid (goOn_any bm va c bs p q b x w1 HM1.out HQ.out)
    go_wp2_with (go_at_call 129; refine HG.out.mono ?_; rintro e w2 ⟨rfl, hm, ho⟩; have HM2 := Lib.hid hm; have HO2 := Lib.hid ho; obtain ⟨c0, c1, c2, c3, c4⟩ := hm.cells; clear hm ho)
    go_ret
    exact ⟨rfl, (HM2.out.setB _).1, ((Off.of_below HB.out).seq HO2.out).seq (HM2.out.setB _).2⟩
  · rw [if_neg hn]
    have d1 : decide (M < n) = false := decide_eq_false hn
    clear hn
    go_enter Tryz.func100, Tryz.ntmps100
    go_wp2_with fail
    refine region_classw (C := RdC w bm va c bs p b) (by kernel_rfl) (by kernel_rfl) HC.out ?_
    repeat (first
      | (refine w_val (v := ?_) (by rfl) (fun w9 hS => ?_) ?_
         rotate_left
         · obtain ⟨c0, c1, c2, c3, c4⟩ := hS.1.cells
           go_simp
           try with_reducible rfl
         simp only [Act.put, List.setIfInBounds_toArray, List.set_cons_zero, List.set_cons_succ])
      | (refine w_call (by rfl) (fun w9 hS => ?_) KN.out ?_
         · obtain ⟨c0, c1, c2, c3, c4⟩ := hS.1.cells
           go_simp
         simp only [Act.put, List.setIfInBounds_toArray, List.set_cons_zero, List.set_cons_succ]))
    refine w_end ?_
    intro w1 T1
    have HM1 := Lib.hid T1.1
    have HB := Lib.hid T1.2
    clear T1
    have HG := Lib.hid (goOn_any bm va c bs p q b x w1 HM1.out HQ.out)
    go_wp2_with (go_at_call 129; refine HG.out.mono ?_; rintro e w2 ⟨rfl, hm, ho⟩; have HM2 := Lib.hid hm; have HO2 := Lib.hid ho; clear hm ho)
    go_ret
    exact ⟨rfl, HM2.out, (Off.of_below HB.out).seq HO2.out⟩
theorem rkind_any (bm : Nat) (va : Option Addr) (c : Nat) (bs : List Int) (p : Nat) (b : Bool) (w : World) (h : Rd bm va c bs p b w) :
    Calls Tryz.prog 64 #[.pointer (some ⟨bm, 0, none⟩)] w (RdP bm va c bs w (.int .u8 (qNat bs 255 p b).1) (qNat bs 255 p b).2.1 (qNat bs 255 p b).2.2) := by
  have HN := Lib.hid (natural_any bm va c bs 255 p b w h)
  have hl := nat_le bs 255 p b
  generalize qNat bs 255 p b = r at *
  obtain ⟨n, q, d⟩ := r
  simp only at HN hl ⊢
  clear h
  go_enter Tryz.func64, Tryz.ntmps64
  go_wp2_with (go_at_call 100; refine HN.out.mono ?_; rintro e w1 ⟨rfl, hm, ho⟩; have HM1 := Lib.hid hm; have HO1 := Lib.hid ho; clear hm ho)
  go_ret
  exact ⟨rfl, HM1.out, HO1.out⟩
theorem rnumber_any (bm : Nat) (va : Option Addr) (c : Nat) (bs : List Int) (p : Nat) (b : Bool) (w : World) (h : Rd bm va c bs p b w) :
    Calls Tryz.prog 65 #[.pointer (some ⟨bm, 0, none⟩)] w (RdP bm va c bs w (.int .i64 (qKey bs p b).1) (qKey bs p b).2.1 (qKey bs p b).2.2) := by
  unfold qKey
  have HN := Lib.hid (natural_any bm va c bs 9223372036854775807 p b w h)
  have hl := nat_le bs 9223372036854775807 p b
  generalize qNat bs 9223372036854775807 p b = r at *
  obtain ⟨n, q, d⟩ := r
  simp only at HN hl ⊢
  clear h
  go_enter Tryz.func65, Tryz.ntmps65
  go_wp2_with (go_at_call 100; refine HN.out.mono ?_; rintro e w1 ⟨rfl, hm, ho⟩; have HM1 := Lib.hid hm; have HO1 := Lib.hid ho; clear hm ho)
  go_ret
  exact ⟨rfl, HM1.out, HO1.out⟩
end Go.Proofs.YtohgopibimgjfaaGreat

/- Q4: whole, bytes, text -/
namespace Go.Proofs.YtohgopibimgjfaaGreat
open Go.RowKit
set_option linter.unusedVariables false
set_option maxRecDepth 100000

theorem IntIs.eq {bs : List Int} {p : Int} {w : World} {E : Int} {n x : Nat} (h1 : uErr bs p = E) (h2 : uNum bs p = n) (h3 : uNxt bs p = x) : IntIs bs p w = fun e w' => e = .returned (.tuple #[.int .i64 (zag n), .int .i64 x, .int .i64 E]) ∧ w = w' := by
  funext e w'
  unfold IntIs
  rw [h1, h2, h3]
theorem qnum_u {bs : List Int} (ho : Okb bs) {p : Nat} (hp : p ≤ bs.length) (b : Bool) : ∃ n q : Nat, ∃ x : Int, qNum bs p b = (n, q, b || !(x == 0)) ∧ q ≤ bs.length ∧ uErr bs p = x ∧ uNum bs p = n ∧ uNxt bs p = q := by
  cases hd : dec64 (bs.drop p) with
  | none =>
    obtain ⟨u1, u2, u3⟩ := u_none hp hd
    exact ⟨0, 0, 3, by rw [qNum_none b hd]; simp, Nat.zero_le _, u1, u2, u3⟩
  | some a =>
    obtain ⟨n, s⟩ := a
    obtain ⟨u1, u2, u3⟩ := u_some hp hd
    have hs := (dec64_take _ (ho.drop p) n s hd).2.2.2.1
    rw [List.length_drop] at hs
    exact ⟨n, p + s, 0, by rw [qNum_some b hd]; simp, by omega, u1, u2, u3⟩
set_option maxHeartbeats 4000000 in
theorem whole_anyR (bm : Nat) (va : Option Addr) (c : Nat) (bs : List Int) (p : Nat) (b : Bool) (w : World) (h : Rd bm va c bs p b w) :
    Calls Tryz.prog 130 #[.pointer (some ⟨bm, 0, none⟩)] w (RdP bm va c bs w (.int .i64 (zag (qNum bs p b).1)) (qNum bs p b).2.1 (qNum bs p b).2.2) := by
  have HU := Lib.hid (fun W (hC : RdC w bm va c bs p b W) => (wint_any _ bs p W hC.1.row hC.1.okb (Nat.le_trans hC.1.len (by omega))))
  have HC := Lib.hid (show RdC w bm va c bs p b w.drew from ⟨h.below (Below.refl _ _).drew, (Below.refl _ _).drew⟩)
  obtain ⟨n, q, x, hq, hql, u1, u2, u3⟩ := qnum_u h.okb h.at_ b
  rw [hq]
  simp only
  have KN := Lib.hid (fun W (hC : RdC w bm va c bs p b W) => (show Calls _ _ _ _ _ from (HU.out W hC).mono fun e w' hz => (by rw [IntIs.eq u1 u2 u3] at hz; obtain ⟨hz1, rfl⟩ := hz; exact ⟨hz1, hC⟩ : e = .returned (.tuple #[.int .i64 (zag n), .int .i64 q, .int .i64 x]) ∧ RdC w bm va c bs p b w')))
  have HQ := Lib.hid hql
  clear h hq hql u1 u2 u3 HU
  generalize zag n = z at *
  go_enter Tryz.func130, Tryz.ntmps130
  go_wp2_with fail
  refine region_classw (C := RdC w bm va c bs p b) (by kernel_rfl) (by kernel_rfl) HC.out ?_
  repeat (first
    | (refine w_val (v := ?_) (by rfl) (fun w9 hS => ?_) ?_
       rotate_left
       · obtain ⟨c0, c1, c2, c3, c4⟩ := hS.1.cells
         go_simp
         try with_reducible rfl
       simp only [Act.put, List.setIfInBounds_toArray, List.set_cons_zero, List.set_cons_succ])
    | (refine w_call (by rfl) (fun w9 hS => ?_) KN.out ?_
       · obtain ⟨c0, c1, c2, c3, c4⟩ := hS.1.cells
         go_simp
       simp only [Act.put, List.setIfInBounds_toArray, List.set_cons_zero, List.set_cons_succ]))
  refine w_end ?_
  intro w1 T1
  have HM1 := Lib.hid T1.1
  have HB := Lib.hid T1.2
  clear T1
  have HG := Lib.hid (goOn_any bm va c bs p q b x w1 HM1.out HQ.out)
  go_wp2_with (go_at_call 129; refine HG.out.mono ?_; rintro e w2 ⟨rfl, hm, ho⟩; have HM2 := Lib.hid hm; have HO2 := Lib.hid ho; clear hm ho)
  go_ret
  exact ⟨rfl, HM2.out, (Off.of_below HB.out).seq HO2.out⟩
theorem Rd.two {bm : Nat} {va : Option Addr} {c : Nat} {bs : List Int} {p : Nat} {b : Bool} {W : World} (h : Rd bm va c bs p b W) : W.cell? ⟨bm, 0, none⟩ = some (.slice va bs.length c) ∧ W.cell? ⟨bm, 1, none⟩ = some (.int .i64 p) := ⟨h.cells.1, h.cells.2.1⟩
/-- A call that tells bytes. -/
def RdT (bm : Nat) (va : Option Addr) (c : Nat) (bs : List Int) (w : World) (r : List Int × Nat × Bool) (e : Ending) (w' : World) : Prop := ∃ a d, e = .returned (.slice a r.1.length d) ∧ Ints .u8 w' (.slice a r.1.length d) r.1 ∧ Rd bm va c bs r.2.1 r.2.2 w' ∧ Off (fun k => k = bm) w w'
set_option maxHeartbeats 4000000 in
theorem bytes_anyR (bm : Nat) (va : Option Addr) (c : Nat) (bs : List Int) (p : Nat) (b : Bool) (w : World) (h : Rd bm va c bs p b w) :
    Calls Tryz.prog 105 #[.pointer (some ⟨bm, 0, none⟩)] w (RdT bm va c bs w (qTxt bs p b)) := by
  have hp := h.at_
  have hl := h.len
  have HCL := Lib.hid h.cell.lt
  have HU := Lib.hid (fun W (hC : Rd bm va c bs p b W) => bytes_any _ bs p bs.length W hC.row hC.okb hC.len (by omega))
  have HMD := Lib.hid (h.below (Below.refl _ _).drew)
  have HOD := Lib.hid (Off.of_below (S := fun k => k = bm) (Below.refl w.heap.size w).drew)
  obtain ⟨E, X, O, hE, hX, hO⟩ : ∃ E X O, bErr bs p bs.length = E ∧ bNxt bs p bs.length = X ∧ bOut bs p bs.length = O := ⟨_, _, _, rfl, rfl, rfl⟩
  have HB := Lib.hid (fun W (hC : Rd bm va c bs p b W) => (HU.out W hC).mono fun e w' (q : BytesIs bs p bs.length W e w') => (show ∃ a d, e = .returned (.tuple #[.slice a O.length d, .int .i64 X, .int .i64 E]) ∧ Ints .u8 w' (.slice a O.length d) O ∧ (∀ x, a = some x → W.heap.size ≤ x.block) ∧ Below W.heap.size W w' by
    obtain ⟨v, q1, q2, q3⟩ := q
    rw [hO] at q2
    rw [hX, hE] at q1
    obtain ⟨a, d, rfl, -, -⟩ := own_shape q2
    exact ⟨a, d, q1, (Ints.of_owns q2).1, fun x e => by subst e; exact (q2.lt x.block (by simp [Value.ownBlock])).1, q3⟩))
  have hcases : ∃ n : Nat, X = n ∧ n ≤ bs.length ∧ qTxt bs p b = (O, n, b || !(E == 0)) := by
    unfold qTxt
    cases hd : dec64 (bs.drop p) with
    | none =>
      obtain ⟨t1, t2, t3, t4⟩ := txt_none b hp hd
      exact ⟨0, by rw [← hX, t3]; try rfl, Nat.zero_le _, by rw [← hO, ← hE, t2, t4]; simp⟩
    | some a =>
      obtain ⟨n, s⟩ := a
      have hs := (dec64_take _ (h.okb.drop p) n s hd).2.2.2.1
      rw [List.length_drop] at hs
      simp only
      by_cases hn : n ≤ bs.length - (p + s)
      · obtain ⟨t1, t2, t3, t4⟩ := txt_yes b hp hd (by omega) hn
        exact ⟨p + s + n, by rw [← hX, t3]; try simp, by omega, by rw [if_pos hn, ← hO, ← hE, t2, t4]; simp⟩
      · obtain ⟨t1, t2, t3, t4⟩ := txt_less b hp hd (by omega) hn
        exact ⟨0, by rw [← hX, t3]; try rfl, Nat.zero_le _, by rw [if_neg hn, ← hO, ← hE, t2, t4]; simp⟩
  obtain ⟨n, hXn, hn, ht⟩ := hcases
  subst hXn
  rw [ht]
  have HQ := Lib.hid hn
  clear hE hX hO HU h ht hn
  obtain ⟨c0, c1, c2, c3, c4⟩ := HMD.out.cells
  go_enter Tryz.func105, Tryz.ntmps105
  go_wp2_with fail
  have hS0 := HMD.out.two
  go_region_held3 (fun w' => w'.cell? ⟨bm, 0, none⟩ = some (.slice va bs.length c) ∧ w'.cell? ⟨bm, 1, none⟩ = some (.int .i64 p)) (first | assumption | trivial)
    ((go_at_call 133; go_loud (refine (HB.out _ HMD.out).mono ?_; rintro e w1 ⟨a, d, rfl, hi, hx, hb⟩; have HM1 := Lib.hid (HMD.out.below hb); have HI := Lib.hid hi; have HO1 := Lib.hid (HOD.out.seq (Off.of_below hb)); have HXX := Lib.hid hx; have hS1 := HM1.out.two; clear hi hb hx)))
  clear hS0 hS1 c0 c1 c2 c3 c4
  have HG := Lib.hid (goOn_any bm va c bs p X b E w1 HM1.out HQ.out)
  go_wp2_with (go_at_call 129; refine HG.out.mono ?_; rintro e w2 ⟨rfl, hm, ho⟩; have HM2 := Lib.hid hm; have HO2 := Lib.hid ho; clear hm ho)
  go_ret
  exact ⟨a, d, rfl, HI.out.off HO2.out (fun _ x e hh => by have := HXX.out x e; have hl := HCL.out; simp at this; omega), HM2.out, HO1.out.seq HO2.out⟩
/-- What Read of runes tells. -/
def rdE (x : List Int) : Int := match readL (bl x) with
  | none => 3
  | some _ => 0
def rdO (x : List Int) : List Int := match readL (bl x) with
  | none => []
  | some rs => rs
theorem pread_all {v : Value} {x : List Int} (W : World) (hv : Ints .u8 W v x) (hl : x.length ≤ 50000000) :
    Calls Tryz.prog 104 #[v] W fun e w' => ∃ ra rc, e = .returned (.tuple #[.slice ra (rdO x).length rc, .int .i64 (rdE x)]) ∧ w'.ownsRow W.heap.size 21 1 (.slice ra (rdO x).length rc) (rdO x).length ((rdO x).map (Value.int .i32)) ∧ Below W.heap.size W w' := by
  unfold rdO rdE
  refine (read_any v x W hv (by omega)).mono fun e w' h2 => ?_
  obtain ⟨hb, ⟨rs2, v2, n, h3, he, ho⟩ | ⟨h3, he⟩⟩ := h2
  · rw [h3]
    obtain ⟨ra, rc, rfl, -, -⟩ := own_shape ho
    have hn := (Ints.of_owns ho).2
    subst hn
    exact ⟨ra, rc, he, ho, hb⟩
  · rw [h3]
    exact ⟨none, 0, he, World.ownsRow_nil _ _ _ _, hb⟩
/-- A call that tells runes of its own. -/
def RdR (bm : Nat) (va : Option Addr) (c : Nat) (bs : List Int) (w : World) (r : List Int × Nat × Bool) (e : Ending) (w' : World) : Prop := ∃ a d, e = .returned (.slice a r.1.length d) ∧ w'.ownsRow w.heap.size 21 1 (.slice a r.1.length d) r.1.length (r.1.map (Value.int .i32)) ∧ Rd bm va c bs r.2.1 r.2.2 w' ∧ Off (fun k => k = bm) w w'
theorem qRun_rd (bs : List Int) (p : Nat) (b : Bool) : qRun bs p b = (rdO (qTxt bs p b).1, (qTxt bs p b).2.1, (qTxt bs p b).2.2 || !(rdE (qTxt bs p b).1 == 0)) := by
  unfold qRun rdO rdE
  cases readL (bl (qTxt bs p b).1) with
  | none => simp
  | some rs => simp
set_option maxHeartbeats 4000000 in
theorem text_anyR (bm : Nat) (va : Option Addr) (c : Nat) (bs : List Int) (p : Nat) (b : Bool) (w : World) (h : Rd bm va c bs p b w) :
    Calls Tryz.prog 67 #[.pointer (some ⟨bm, 0, none⟩)] w (RdR bm va c bs w (qRun bs p b)) := by
  have HB := Lib.hid (bytes_anyR bm va c bs p b w h)
  have HCL := Lib.hid h.cell.lt
  have hl := h.len
  have hl2 := (qtxt_len h.okb (p := p) b).1
  rw [qRun_rd]
  generalize qTxt bs p b = r at *
  obtain ⟨x, q, d⟩ := r
  simp only at HB hl2 ⊢
  have HR := Lib.hid (fun v W (hv : Ints .u8 W v x) => pread_all W hv (by omega))
  generalize rdO x = O at *
  generalize rdE x = E at *
  clear h
  go_enter Tryz.func67, Tryz.ntmps67
  go_wp2_with (first
    | (go_at_call 105; go_loud (refine HB.out.mono ?_; rintro e w1 ⟨a, d1, rfl, hi, hm, ho⟩; have HM1 := Lib.hid hm; have HO1 := Lib.hid (ho); have HRR := Lib.hid (HR.out _ _ hi); clear hi ho hm))
    | (go_at_call 104; go_loud (refine HRR.out.mono ?_; rintro e w2 ⟨ra, rc, rfl, hown, hb⟩; have HM2 := Lib.hid (HM1.out.below hb); have HO2 := Lib.hid (HO1.out.seq (Off.of_below hb)); have HOW := Lib.hid (owns_mono hown HO1.out.size); clear hb hown)))
  have HG := Lib.hid (note_any bm va c bs q d E w2 HM2.out)
  go_wp2_with (go_at_call 106; refine HG.out.mono ?_; rintro e w3 ⟨rfl, hm, ho⟩; have HM3 := Lib.hid hm; have HO3 := Lib.hid ho; clear hm ho)
  go_ret
  refine ⟨ra, rc, rfl, owns_kept HOW.out (fun g hg => HO3.out.block g (own_lt7 HOW.out hg) (fun hh => by have := own_base HOW.out hg; have := HCL.out; omega)), HM3.out, HO2.out.seq HO3.out⟩
end Go.Proofs.YtohgopibimgjfaaGreat

/- Q5: a value is read by the program's reader -/
namespace Go.Proofs.YtohgopibimgjfaaGreat
open Go.RowKit
set_option linter.unusedVariables false
set_option maxRecDepth 100000

theorem Rd.na {bm c p : Nat} {va : Option Addr} {bs : List Int} {b : Bool} {w : World} (h : Rd bm va c bs p b w) {S : Nat → Prop} (hS : ∀ k, S k → w.heap.size ≤ k) : Na S va bs.length := fun h0 x hx hh => by
  rcases h.row with ⟨a, cap, hv, hb, -⟩ | ⟨b', off, cap, hv, -, -, -, hc⟩
  · rw [hb] at h0; simp at h0
  · injection hv with e1 e2 e3
    rw [hx] at e1
    injection e1 with e1
    subst e1
    have h1 := World.block_lt_of_cell? w _ (hc 0 h0)
    have h2 := hS _ hh
    simp only at h1 h2
    omega
/-- A reader, what a call wrote, and the two variables of a value. -/
structure VS (w : World) (bm : Nat) (va : Option Addr) (c : Nat) (bs : List Int) (q : Nat) (d : Bool) (g : Nat) (k n f : Int) (s : ByteArray) (W : World) : Prop where
  m : Rd bm va c bs q d W
  o : Off (fun x => x = bm) w W
  a : Cb w.heap.size 59 (vcells 0 0 0 ⟨#[]⟩) W
  v : Cb g 59 (vcells k n f s) W
  lb : bm < w.heap.size
  lg : w.heap.size < g
  na : ∀ S : Nat → Prop, (∀ k, S k → w.heap.size ≤ k) → Na S va bs.length
section
variable {w W W2 : World} {bm c q q2 g : Nat} {va : Option Addr} {bs : List Int} {d d2 : Bool} {k n f : Int} {s : ByteArray}
theorem VS.call (h : VS w bm va c bs q d g k n f s W) (hm : Rd bm va c bs q2 d2 W2) (ho : Off (fun x => x = bm) W W2) : VS w bm va c bs q2 d2 g k n f s W2 := by
  have h1 := h.lb
  have h2 := h.lg
  exact ⟨hm, h.o.seq ho, h.a.off ho (by omega), h.v.off ho (by omega), h1, h2, h.na⟩
theorem VS.set {k' n' f' : Int} {s' : ByteArray} {j : Nat} {u : Value} (h : VS w bm va c bs q d g k n f s W) (he : (vcells k n f s).setIfInBounds j u = vcells k' n' f' s') : VS w bm va c bs q d g k' n' f' s' (W.setCell ⟨g, j, none⟩ u) := by
  have h1 := h.lb
  have h2 := h.lg
  have hf := mo_off (bm := g) (W := W) u j
  refine ⟨h.m.off hf (by omega) (h.na _ (fun k hk => by omega)), off_more h.o hf (fun x hx => .inr (by omega)), h.a.off hf (by omega), ?_, h1, h2, h.na⟩
  have := heap_set (o := j) u h.v
  rw [he] at this
  exact this
theorem VS.start {p : Nat} {b : Bool} (h : Rd bm va c bs p b w) : Rd bm va c bs p b (w.alloc (.cells (vcells 0 0 0 ⟨#[]⟩) 59)) := h.below (kbelow_one _ _)
theorem VS.begin {p : Nat} {b : Bool} (h : Rd bm va c bs p b w) (hm : Rd bm va c bs q d W) (ho : Off (fun x => x = bm) (w.alloc (.cells (vcells 0 0 0 ⟨#[]⟩) 59)) W) (k : Int) : VS w bm va c bs q d W.heap.size k 0 0 ⟨#[]⟩ (W.alloc (.cells (vcells k 0 0 ⟨#[]⟩) 59)) := by
  have hl := h.cell.lt
  have hb := kbelow_one W (.cells (vcells k 0 0 ⟨#[]⟩) 59)
  have hs := ho.size
  have e : (w.alloc (.cells (vcells 0 0 0 ⟨#[]⟩) 59)).heap.size = w.heap.size + 1 := by simp
  exact ⟨hm.below hb, ((Off.of_below (kbelow_one w _)).seq ho).seq (Off.of_below hb), ((cb_new w _ _).off ho (by omega)).below hb, cb_new _ _ _, hl, by omega, fun S hS => h.na hS⟩
theorem VS.end (h : VS w bm va c bs q d g k n f s W) : Rd bm va c bs q d (put4 W w.heap.size k n f s) ∧ Off (fun x => x = bm) w (put4 W w.heap.size k n f s) ∧ Cb w.heap.size 59 (vcells k n f s) (put4 W w.heap.size k n f s) := by
  have h1 := h.lb
  exact ⟨h.m.off (put4_off _ _ _ _ _ _) (by omega) (h.na _ (fun k hk => by omega)), off_more h.o (put4_off _ _ _ _ _ _) (fun x hx => .inr (by omega)), put4_row h.a⟩
end
theorem float_anyR (bm : Nat) (va : Option Addr) (c : Nat) (bs : List Int) (p : Nat) (b : Bool) (w : World) (h : Rd bm va c bs p b w) :
    Calls Tryz.prog 100 #[.pointer (some ⟨bm, 0, none⟩), .int .u64 18446744073709551615] w (RdP bm va c bs w (.int .u64 (qNum bs p b).1) (qNum bs p b).2.1 (qNum bs p b).2.2) := by
  have hn := natural_any bm va c bs 18446744073709551615 p b w h
  have hl := qNum_lt p b h.okb
  have e : qNat bs 18446744073709551615 p b = qNum bs p b := by unfold qNat; rw [if_neg (by omega)]
  rw [e] at hn
  exact hn
set_option maxHeartbeats 8000000 in
theorem value_anyR (bm : Nat) (va : Option Addr) (c : Nat) (bs : List Int) (p : Nat) (b : Bool) (w : World) (h : Rd bm va c bs p b w) :
    Calls Tryz.prog 103 #[.pointer (some ⟨bm, 0, none⟩)] w (RdP bm va c bs w (vlV (qVl bs p b).1) (qVl bs p b).2.1 (qVl bs p b).2.2) := by
  have HK := Lib.hid (rkind_any bm va c bs p b _ (VS.start h))
  have HR := Lib.hid h
  have HOK := Lib.hid h.okb
  have hk := nat_le bs 255 p b
  have HSU := Lib.hid Tryz.underlying59
  unfold qVl
  generalize qNat bs 255 p b = r at *
  obtain ⟨k, q, d⟩ := r
  simp only at HK hk ⊢
  clear h
  by_cases k1 : k = 1
  · subst k1
    rw [show qVal bs 1 q d = (⟨1, zag (qNum bs q d).1, 0, ⟨#[]⟩⟩, (qNum bs q d).2) from rfl]
    have HC := Lib.hid (fun W (hm : Rd bm va c bs q d W) => whole_anyR bm va c bs q d W hm)
    generalize qNum bs q d = r at *
    obtain ⟨n, q2, d2⟩ := r
    simp only at HC ⊢
    go_enter Tryz.func103, Tryz.ntmps103
    go_upto_region 10 with (first
      | (go_at_call 64; go_loud (refine HK.out.mono ?_; rintro e w1 ⟨rfl, hm, ho⟩; have HV := Lib.hid (VS.begin HR.out hm ho 1); have HC2 := Lib.hid (HC.out _ HV.out.m); obtain ⟨f0, f1, f2, f3⟩ := vfroz HV.out.v; clear hm ho))
      | (go_at_call 130; go_loud (refine HC2.out.mono ?_; rintro e w2 ⟨rfl, hm, ho⟩; have HV2 := Lib.hid (HV.out.call hm ho); clear f0 f1 f2 f3; obtain ⟨f0, f1, f2, f3⟩ := vfroz HV2.out.v; obtain ⟨b0, b1, b2, b3⟩ := vcell HV2.out.v; clear hm ho)))
    have HV3 := Lib.hid (HV2.out.set (j := 1) (u := .int .i64 (zag n)) (k' := 1) (n' := zag n) (f' := 0) (s' := ⟨#[]⟩) rfl)
    generalize w2.setCell _ _ = w3 at *
    generalize w1.heap.size = g at *
    clear f0 f1 f2 f3 b0 b1 b2 b3 HV HC HC2 HK HR
    try clear HV2
    obtain ⟨x0, x1, x2, x3⟩ := vcell HV3.out.v
    obtain ⟨z0, z1, z2, z3⟩ := vfroz HV3.out.a
    obtain ⟨u0, u1, u2, u3⟩ := vcell HV3.out.a
    go_wp2
    obtain ⟨y1, y2, y3⟩ := HV3.out.end
    exact bodyPost_ret (results_cell_row Tryz.results103 _ _ _ _ _ _ _ rfl y3 HSU.out rfl vinfo) rfl ⟨rfl, y1, y2⟩
  by_cases k2 : k = 2
  · subst k2
    rw [show qVal bs 2 q d = (⟨2, zag (qNum bs q d).1, 0, ⟨#[]⟩⟩, (qNum bs q d).2) from rfl]
    have HC := Lib.hid (fun W (hm : Rd bm va c bs q d W) => whole_anyR bm va c bs q d W hm)
    generalize qNum bs q d = r at *
    obtain ⟨n, q2, d2⟩ := r
    simp only at HC ⊢
    go_enter Tryz.func103, Tryz.ntmps103
    go_upto_region 10 with (first
      | (go_at_call 64; go_loud (refine HK.out.mono ?_; rintro e w1 ⟨rfl, hm, ho⟩; have HV := Lib.hid (VS.begin HR.out hm ho 2); have HC2 := Lib.hid (HC.out _ HV.out.m); obtain ⟨f0, f1, f2, f3⟩ := vfroz HV.out.v; clear hm ho))
      | (go_at_call 130; go_loud (refine HC2.out.mono ?_; rintro e w2 ⟨rfl, hm, ho⟩; have HV2 := Lib.hid (HV.out.call hm ho); clear f0 f1 f2 f3; obtain ⟨f0, f1, f2, f3⟩ := vfroz HV2.out.v; obtain ⟨b0, b1, b2, b3⟩ := vcell HV2.out.v; clear hm ho)))
    have HV3 := Lib.hid (HV2.out.set (j := 1) (u := .int .i64 (zag n)) (k' := 2) (n' := zag n) (f' := 0) (s' := ⟨#[]⟩) rfl)
    generalize w2.setCell _ _ = w3 at *
    generalize w1.heap.size = g at *
    clear f0 f1 f2 f3 b0 b1 b2 b3 HV HC HC2 HK HR
    try clear HV2
    obtain ⟨x0, x1, x2, x3⟩ := vcell HV3.out.v
    obtain ⟨z0, z1, z2, z3⟩ := vfroz HV3.out.a
    obtain ⟨u0, u1, u2, u3⟩ := vcell HV3.out.a
    go_wp2
    obtain ⟨y1, y2, y3⟩ := HV3.out.end
    exact bodyPost_ret (results_cell_row Tryz.results103 _ _ _ _ _ _ _ rfl y3 HSU.out rfl vinfo) rfl ⟨rfl, y1, y2⟩
  by_cases k3 : k = 3
  · subst k3
    rw [show qVal bs 3 q d = (⟨3, 0, (qNum bs q d).1, ⟨#[]⟩⟩, (qNum bs q d).2) from rfl]
    have HC := Lib.hid (fun W (hm : Rd bm va c bs q d W) => float_anyR bm va c bs q d W hm)
    generalize qNum bs q d = r at *
    obtain ⟨n, q2, d2⟩ := r
    simp only at HC ⊢
    go_enter Tryz.func103, Tryz.ntmps103
    go_upto_region 10 with (first
      | (go_at_call 64; go_loud (refine HK.out.mono ?_; rintro e w1 ⟨rfl, hm, ho⟩; have HV := Lib.hid (VS.begin HR.out hm ho 3); have HC2 := Lib.hid (HC.out _ HV.out.m); obtain ⟨f0, f1, f2, f3⟩ := vfroz HV.out.v; clear hm ho))
      | (go_at_call 100; go_loud (refine HC2.out.mono ?_; rintro e w2 ⟨rfl, hm, ho⟩; have HV2 := Lib.hid (HV.out.call hm ho); clear f0 f1 f2 f3; obtain ⟨f0, f1, f2, f3⟩ := vfroz HV2.out.v; obtain ⟨b0, b1, b2, b3⟩ := vcell HV2.out.v; clear hm ho)))
    have HV3 := Lib.hid (HV2.out.set (j := 2) (u := .int .u64 n) (k' := 3) (n' := 0) (f' := n) (s' := ⟨#[]⟩) rfl)
    generalize w2.setCell _ _ = w3 at *
    generalize w1.heap.size = g at *
    clear f0 f1 f2 f3 b0 b1 b2 b3 HV HC HC2 HK HR
    try clear HV2
    obtain ⟨x0, x1, x2, x3⟩ := vcell HV3.out.v
    obtain ⟨z0, z1, z2, z3⟩ := vfroz HV3.out.a
    obtain ⟨u0, u1, u2, u3⟩ := vcell HV3.out.a
    go_wp2
    obtain ⟨y1, y2, y3⟩ := HV3.out.end
    exact bodyPost_ret (results_cell_row Tryz.results103 _ _ _ _ _ _ _ rfl y3 HSU.out rfl vinfo) rfl ⟨rfl, y1, y2⟩
  by_cases k4 : k = 4
  · subst k4
    rw [show qVal bs 4 q d = (⟨4, 0, 0, strOfNums (qTxt bs q d).1⟩, (qTxt bs q d).2) from rfl]
    have HC := Lib.hid (fun W (hm : Rd bm va c bs q d W) => bytes_anyR bm va c bs q d W hm)
    generalize qTxt bs q d = r at *
    obtain ⟨n, q2, d2⟩ := r
    simp only at HC ⊢
    go_enter Tryz.func103, Tryz.ntmps103
    go_upto_region 10 with (first
      | (go_at_call 64; go_loud (refine HK.out.mono ?_; rintro e w1 ⟨rfl, hm, ho⟩; have HV := Lib.hid (VS.begin HR.out hm ho 4); have HC2 := Lib.hid (HC.out _ HV.out.m); obtain ⟨f0, f1, f2, f3⟩ := vfroz HV.out.v; clear hm ho))
      | (go_at_call 105; go_loud (refine HC2.out.mono ?_; rintro e w2 ⟨ta, td, rfl, hi, hm, ho⟩; have HV2 := Lib.hid (HV.out.call hm ho); clear f0 f1 f2 f3; obtain ⟨f0, f1, f2, f3⟩ := vfroz HV2.out.v; obtain ⟨b0, b1, b2, b3⟩ := vcell HV2.out.v; have hcv := conv_ints _ _ w2 hi; clear hi; clear hm ho)))
    have HV3 := Lib.hid (HV2.out.set (j := 3) (u := .string (strOfNums n)) (k' := 4) (n' := 0) (f' := 0) (s' := strOfNums n) rfl)
    generalize w2.setCell _ _ = w3 at *
    generalize w1.heap.size = g at *
    clear f0 f1 f2 f3 b0 b1 b2 b3 HV HC HC2 HK HR
    try clear HV2
    obtain ⟨x0, x1, x2, x3⟩ := vcell HV3.out.v
    obtain ⟨z0, z1, z2, z3⟩ := vfroz HV3.out.a
    obtain ⟨u0, u1, u2, u3⟩ := vcell HV3.out.a
    go_wp2
    obtain ⟨y1, y2, y3⟩ := HV3.out.end
    exact bodyPost_ret (results_cell_row Tryz.results103 _ _ _ _ _ _ _ rfl y3 HSU.out rfl vinfo) rfl ⟨rfl, y1, y2⟩
  · have es : qVal bs k q d = (⟨k, 0, 0, ⟨#[]⟩⟩, q, d) := by
      unfold qVal
      rw [if_neg (by omega), if_neg k3, if_neg k4]
    rw [es]
    have e1 : ((k : Int) == 1) = false := by simp; omega
    have e2 : ((k : Int) == 2) = false := by simp; omega
    have e3 : ((k : Int) == 3) = false := by simp; omega
    have e4 : ((k : Int) == 4) = false := by simp; omega
    clear es k1 k2 k3 k4
    go_enter Tryz.func103, Tryz.ntmps103
    go_upto_region 10 with (go_at_call 64; go_loud (refine HK.out.mono ?_; rintro e w1 ⟨rfl, hm, ho⟩; have HV := Lib.hid (VS.begin HR.out hm ho k); clear hm ho))
    generalize w1.alloc _ = w3 at *
    generalize w1.heap.size = g at *
    obtain ⟨x0, x1, x2, x3⟩ := vcell HV.out.v
    obtain ⟨z0, z1, z2, z3⟩ := vfroz HV.out.a
    obtain ⟨u0, u1, u2, u3⟩ := vcell HV.out.a
    clear HK HR
    go_wp2
    obtain ⟨y1, y2, y3⟩ := HV.out.end
    exact bodyPost_ret (results_cell_row Tryz.results103 _ _ _ _ _ _ _ rfl y3 HSU.out rfl vinfo) rfl ⟨rfl, y1, y2⟩
end Go.Proofs.YtohgopibimgjfaaGreat

/- Q6: an attribute, a change is read by the program's reader -/
namespace Go.Proofs.YtohgopibimgjfaaGreat
open Go.RowKit
set_option linter.unusedVariables false
set_option maxRecDepth 100000

theorem ainfo : (Tryz.prog.info? 61).map (·.size) = some 5 := by kernel_rfl
theorem cinfo : (Tryz.prog.info? 63).map (·.size) = some 6 := by kernel_rfl
theorem fun_any {bm c p : Nat} {va : Option Addr} {bs : List Int} {b : Bool} {w W : World} {br : Nat} {v : Value} (h : Rd bm va c bs p b w) (hc : w.cell? ⟨br, 0, none⟩ = some v) (hb : br < w.heap.size) (hne : br ≠ bm) (ho : Off (fun k => k = bm) w W) : W.cell? ⟨br, 0, none⟩ = some v := by
  have := ho.block br hb hne
  unfold World.cell? at hc ⊢
  simp only [this]
  exact hc
@[reducible] def put5 (W : World) (g : Nat) (key k n f : Int) (s : ByteArray) : World := ((((W.setCell ⟨g, 0, none⟩ (.int .i64 key)).setCell ⟨g, 1, none⟩ (.int .u8 k)).setCell ⟨g, 2, none⟩ (.int .i64 n)).setCell ⟨g, 3, none⟩ (.int .u64 f)).setCell ⟨g, 4, none⟩ (.string s)
theorem put5_off (W : World) (g : Nat) (key k n f : Int) (s : ByteArray) : Off (fun x => x = g) W (put5 W g key k n f s) :=
  ((((mo_off (bm := g) _ 0).seq (mo_off _ 1)).seq (mo_off _ 2)).seq (mo_off _ 3)).seq (mo_off _ 4)
theorem put5_row {W : World} {g : Nat} {key k n f : Int} {s : ByteArray} {a : Att} (h : Cb g 61 (aca a) W) : Cb g 61 (aca ⟨key, k, n, f, s⟩) (put5 W g key k n f s) :=
  heap_set _ (heap_set _ (heap_set _ (heap_set _ (heap_set _ h))))
theorem att_end {bm c q : Nat} {va : Option Addr} {bs : List Int} {d : Bool} {w w1 : World} {a : Att} (hm : Rd bm va c bs q d w1) (ho : Off (fun x => x = bm) w w1) (ha : Cb w.heap.size 61 (aca a) w1) (hb : bm < w.heap.size) (hn : Na (fun x => x = w.heap.size) va bs.length) (key k n f : Int) (s : ByteArray) :
    Rd bm va c bs q d (put5 w1 w.heap.size key k n f s) ∧ Off (fun x => x = bm) w (put5 w1 w.heap.size key k n f s) ∧ Cb w.heap.size 61 (aca ⟨key, k, n, f, s⟩) (put5 w1 w.heap.size key k n f s) :=
  ⟨hm.off (put5_off _ _ _ _ _ _ _) (by omega) hn, off_more ho (put5_off _ _ _ _ _ _ _) (fun x hx => .inr (by omega)), put5_row ha⟩
set_option maxHeartbeats 4000000 in
theorem cloA_any (bm br : Nat) (va : Option Addr) (c : Nat) (bs : List Int) (p : Nat) (b : Bool) (w : World) (h : Rd bm va c bs p b w) (hc : w.cell? ⟨br, 0, none⟩ = some (.pointer (some ⟨bm, 0, none⟩))) (hb : br < w.heap.size) (hne : br ≠ bm) :
    Calls Tryz.prog 108 #[.pointer (some ⟨br, 0, none⟩)] w (RdP bm va c bs w (av (qAtt bs p b).1) (qAtt bs p b).2.1 (qAtt bs p b).2.2) := by
  have hlb := h.cell.lt
  have hb1 : Below w.heap.size w (w.alloc (.cells (aca ⟨0, 0, 0, 0, ⟨#[]⟩⟩) 61)).drew := (kbelow_one w _).drew
  have HNA := Lib.hid (fun S hS => h.na (S := S) hS)
  have HSU := Lib.hid Tryz.underlying61
  have HM0 := Lib.hid (h.below hb1)
  have HA0 := Lib.hid ((cb_new w 61 (aca ⟨0, 0, 0, 0, ⟨#[]⟩⟩)).below (Below.refl _ _).drew)
  have HB0 := Lib.hid hb1
  have hcc : (w.alloc (.cells (aca ⟨0, 0, 0, 0, ⟨#[]⟩⟩) 61)).drew.cell? ⟨br, 0, none⟩ = some (.pointer (some ⟨bm, 0, none⟩)) := (hb1.cell (p := ⟨br, 0, none⟩) hb).trans hc
  have HKP := Lib.hid (fun W (ho : Off (fun k => k = bm) (w.alloc (.cells (aca ⟨0, 0, 0, 0, ⟨#[]⟩⟩) 61)).drew W) => fun_any HM0.out hcc (Nat.lt_of_lt_of_le hb hb1.size) hne ho)
  have HKY := Lib.hid (rnumber_any bm va c bs p b _ HM0.out)
  have HVL := Lib.hid (fun W (hm : Rd bm va c bs (qKey bs p b).2.1 (qKey bs p b).2.2 W) => value_anyR bm va c bs _ _ W hm)
  have e : qAtt bs p b = (attOf ((qKey bs p b).1, (qVl bs (qKey bs p b).2.1 (qKey bs p b).2.2).1), (qVl bs (qKey bs p b).2.1 (qKey bs p b).2.2).2) := rfl
  rw [e]
  unfold vlV at HVL
  generalize qKey bs p b = r at *
  obtain ⟨key, q, d⟩ := r
  simp only at HKY HVL ⊢
  generalize qVl bs q d = r at *
  obtain ⟨⟨vk, vn, vf, vs⟩, q2, d2⟩ := r
  simp only at HVL ⊢
  clear h e hb1 hc
  go_enter Tryz.func108, Tryz.ntmps108
  go_wp2_with fail
  generalize hW0 : (w.alloc (.cells (aca ⟨0, 0, 0, 0, ⟨#[]⟩⟩) 61)) = W0 at *
  go_region_law (first
    | (refine step_call (by rfl) (f := 65) (args := #[.pointer (some ⟨bm, 0, none⟩)]) (by go_simp) ?_; refine HKY.out.mono ?_; rintro e w1 ⟨rfl, hm, ho⟩; have HM1 := Lib.hid hm; have HO1 := Lib.hid ho; have hcc1 := HKP.out _ ho; clear hm ho; refine ⟨_, rfl, ?_⟩)
    | (refine step_call (by rfl) (f := 103) (args := #[.pointer (some ⟨bm, 0, none⟩)]) (by go_simp) ?_; refine (HVL.out _ HM1.out).mono ?_; rintro e w2 ⟨rfl, hm, ho⟩; have HM2 := Lib.hid hm; have HO2 := Lib.hid (HO1.out.seq ho); have HA2 := Lib.hid (show Cb w.heap.size 61 (aca ⟨0, 0, 0, 0, ⟨#[]⟩⟩) w2 from HA0.out.off HO2.out (by omega)); obtain ⟨u0, u1, u2, u3, u4⟩ := cb5 HA2.out; obtain ⟨z0, z1, z2, z3, z4, -⟩ := cbf HA2.out; clear hm ho; refine ⟨_, rfl, ?_⟩))
  all_goals
    go_wp2
    obtain ⟨y1, y2, y3⟩ := att_end HM2.out ((Off.of_below HB0.out).seq HO2.out) HA2.out hlb (HNA.out _ (fun k hk => by omega)) key vk vn vf vs
    exact bodyPost_ret (results_cell_row Tryz.results108 _ _ _ _ _ _ _ rfl y3 HSU.out rfl ainfo) rfl ⟨rfl, y1, y2⟩
@[reducible] def put6 (W : World) (g : Nat) (key : Int) (b : Bool) (k n f : Int) (s : ByteArray) : World := (((((W.setCell ⟨g, 0, none⟩ (.int .i64 key)).setCell ⟨g, 1, none⟩ (.bool b)).setCell ⟨g, 2, none⟩ (.int .u8 k)).setCell ⟨g, 3, none⟩ (.int .i64 n)).setCell ⟨g, 4, none⟩ (.int .u64 f)).setCell ⟨g, 5, none⟩ (.string s)
theorem put6_off (W : World) (g : Nat) (key : Int) (b : Bool) (k n f : Int) (s : ByteArray) : Off (fun x => x = g) W (put6 W g key b k n f s) :=
  (((((mo_off (bm := g) _ 0).seq (mo_off _ 1)).seq (mo_off _ 2)).seq (mo_off _ 3)).seq (mo_off _ 4)).seq (mo_off _ 5)
theorem put6_row {W : World} {g : Nat} {key : Int} {b : Bool} {k n f : Int} {s : ByteArray} {a : Chg} (h : Cb g 63 (cca a) W) : Cb g 63 (cca ⟨key, b, k, n, f, s⟩) (put6 W g key b k n f s) :=
  heap_set _ (heap_set _ (heap_set _ (heap_set _ (heap_set _ (heap_set _ h)))))
/-- A reader, what a call wrote, and the two variables of a change. -/
structure CE (w : World) (bm : Nat) (va : Option Addr) (c : Nat) (bs : List Int) (q : Nat) (d : Bool) (g : Nat) (ch : Chg) (W : World) : Prop where
  m : Rd bm va c bs q d W
  o : Off (fun x => x = bm) w W
  a : Cb w.heap.size 63 (cca noChg) W
  v : Cb g 63 (cca ch) W
  lb : bm < w.heap.size
  lg : w.heap.size < g
  na : ∀ S : Nat → Prop, (∀ k, S k → w.heap.size ≤ k) → Na S va bs.length
section
variable {w W W2 : World} {bm c q g : Nat} {va : Option Addr} {bs : List Int} {d : Bool} {ch : Chg} {key k n f : Int} {s : ByteArray} {b : Bool}
theorem ce_put (hm : Rd bm va c bs q d W) (ho : Off (fun x => x = bm) w W) (ha : Cb w.heap.size 63 (cca noChg) W) (hg : Cb g 63 (cca noChg) W) (lb : bm < w.heap.size) (lg : w.heap.size < g) (na : ∀ S : Nat → Prop, (∀ k, S k → w.heap.size ≤ k) → Na S va bs.length) (key k n f : Int) (s : ByteArray) :
    CE w bm va c bs q d g ⟨key, false, k, n, f, s⟩ (put6 W g key false k n f s) :=
  ⟨hm.off (put6_off _ _ _ _ _ _ _ _) (by omega) (na _ (fun k hk => by omega)), off_more ho (put6_off _ _ _ _ _ _ _ _) (fun x hx => .inr (by omega)), ha.off (put6_off _ _ _ _ _ _ _ _) (by omega), put6_row hg, lb, lg, na⟩
theorem ce_new (hm : Rd bm va c bs q d W) (ho : Off (fun x => x = bm) w W) (ha : Cb w.heap.size 63 (cca noChg) W) (lb : bm < w.heap.size) (lg : w.heap.size < W.heap.size) (na : ∀ S : Nat → Prop, (∀ k, S k → w.heap.size ≤ k) → Na S va bs.length) (ch : Chg) :
    CE w bm va c bs q d W.heap.size ch (W.alloc (.cells (cca ch) 63)) :=
  ⟨hm.below (kbelow_one _ _), ho.seq (Off.of_below (kbelow_one _ _)), ha.below (kbelow_one _ _), cb_new _ _ _, lb, lg, na⟩
theorem CE.gone (h : CE w bm va c bs q d g ⟨key, b, k, n, f, s⟩ W) (b' : Bool) : CE w bm va c bs q d g ⟨key, b', k, n, f, s⟩ (W.setCell ⟨g, 1, none⟩ (.bool b')) := by
  have h1 := h.lb
  have h2 := h.lg
  have hf := mo_off (bm := g) (W := W) (.bool b') 1
  exact ⟨h.m.off hf (by omega) (h.na _ (fun k hk => by omega)), off_more h.o hf (fun x hx => .inr (by omega)), h.a.off hf (by omega), heap_set _ h.v, h1, h2, h.na⟩
theorem CE.end (h : CE w bm va c bs q d g ⟨key, b, k, n, f, s⟩ W) : Rd bm va c bs q d (put6 W w.heap.size key b k n f s) ∧ Off (fun x => x = bm) w (put6 W w.heap.size key b k n f s) ∧ Cb w.heap.size 63 (cca ⟨key, b, k, n, f, s⟩) (put6 W w.heap.size key b k n f s) := by
  have h1 := h.lb
  exact ⟨h.m.off (put6_off _ _ _ _ _ _ _ _) (by omega) (h.na _ (fun k hk => by omega)), off_more h.o (put6_off _ _ _ _ _ _ _ _) (fun x hx => .inr (by omega)), put6_row h.a⟩
end
set_option maxHeartbeats 8000000 in
theorem cloC_any (bm br : Nat) (va : Option Addr) (c : Nat) (bs : List Int) (p : Nat) (b : Bool) (w : World) (h : Rd bm va c bs p b w) (hc : w.cell? ⟨br, 0, none⟩ = some (.pointer (some ⟨bm, 0, none⟩))) (hb : br < w.heap.size) (hne : br ≠ bm) :
    Calls Tryz.prog 102 #[.pointer (some ⟨br, 0, none⟩)] w (RdP bm va c bs w (cv (qChg bs p b).1) (qChg bs p b).2.1 (qChg bs p b).2.2) := by
  have hlb := h.cell.lt
  have hb1 : Below w.heap.size w (w.alloc (.cells (cca noChg) 63)).drew := (kbelow_one w _).drew
  have HNA := Lib.hid (fun S hS => h.na (S := S) hS)
  have HSU := Lib.hid Tryz.underlying63
  have HM0 := Lib.hid (h.below hb1)
  have HA0 := Lib.hid ((cb_new w 63 (cca noChg)).below (Below.refl _ _).drew)
  have HB0 := Lib.hid hb1
  have hcc : (w.alloc (.cells (cca noChg) 63)).drew.cell? ⟨br, 0, none⟩ = some (.pointer (some ⟨bm, 0, none⟩)) := (hb1.cell (p := ⟨br, 0, none⟩) hb).trans hc
  have HKP := Lib.hid (fun W (ho : Off (fun k => k = bm) (w.alloc (.cells (cca noChg) 63)).drew W) => fun_any HM0.out hcc (Nat.lt_of_lt_of_le hb hb1.size) hne ho)
  have HKY := Lib.hid (fun W (hm : Rd bm va c bs p b W) => rnumber_any bm va c bs p b W hm)
  have HVL := Lib.hid (fun W (hm : Rd bm va c bs (qKey bs p b).2.1 (qKey bs p b).2.2 W) => value_anyR bm va c bs _ _ W hm)
  have e : qChg bs p b = (chgOf ((qKey bs p b).1, (qVl bs (qKey bs p b).2.1 (qKey bs p b).2.2).1), (qVl bs (qKey bs p b).2.1 (qKey bs p b).2.2).2) := rfl
  rw [e]
  unfold vlV at HVL
  generalize qKey bs p b = r at *
  obtain ⟨key, q, d⟩ := r
  simp only at HKY HVL ⊢
  generalize qVl bs q d = r at *
  obtain ⟨⟨vk, vn, vf, vs⟩, q2, d2⟩ := r
  simp only at HVL ⊢
  have hsz : w.heap.size < (w.alloc (.cells (cca noChg) 63)).drew.heap.size := by simp [World.drew]
  clear h e hb1 hc
  go_enter Tryz.func102, Tryz.ntmps102
  go_wp2_with fail
  generalize hW0 : (w.alloc (.cells (cca noChg) 63)).drew = W0 at *
  have hcd : (W0.alloc (.cells (cca noChg) 63)).cell? ⟨br, 0, none⟩ = some (.pointer (some ⟨bm, 0, none⟩)) := HKP.out _ (Off.of_below (kbelow_one _ _))
  go_region_law (first
    | ((refine step_call (by rfl) (f := 65) (args := #[.pointer (some ⟨bm, 0, none⟩)]) (by go_simp) ?_; (first | (refine (HKY.out _ HM0.out).mono ?_; rintro e w1 ⟨rfl, hm, ho⟩; have HM1 := Lib.hid hm; have HO1 := Lib.hid ho) | (refine (HKY.out _ (HM0.out.below (kbelow_one W0 _))).mono ?_; rintro e w1 ⟨rfl, hm, ho⟩; have HM1 := Lib.hid hm; have HO1 := Lib.hid ((Off.of_below (kbelow_one W0 _)).seq ho); have HG1 := Lib.hid (show Cb W0.heap.size 63 (cca noChg) w1 from (cb_new W0 63 (cca noChg)).off ho (by omega))) | fail); have hcc1 := HKP.out _ HO1.out; have hcd1 := HKP.out _ (HO1.out.seq (Off.of_below (kbelow_one w1 (.cells (cca noChg) 63)))); clear hm ho; refine ⟨_, rfl, ?_⟩))
    | ((refine step_call (by rfl) (f := 103) (args := #[.pointer (some ⟨bm, 0, none⟩)]) (by go_simp) ?_; (first | (refine (HVL.out _ HM1.out).mono ?_; rintro e w2 ⟨rfl, hm, ho⟩; have HM2 := Lib.hid hm; have HO2 := Lib.hid (HO1.out.seq ho)) | (refine (HVL.out _ (HM1.out.below (kbelow_one w1 _))).mono ?_; rintro e w2 ⟨rfl, hm, ho⟩; have HM2 := Lib.hid hm; have HO2 := Lib.hid ((HO1.out.seq (Off.of_below (kbelow_one w1 _))).seq ho)) | fail); (first | (have HG2 := Lib.hid (show Cb W0.heap.size 63 (cca noChg) w2 from HG1.out.off ho (by omega)); obtain ⟨u0, u1, u2, u3, u4, u5⟩ := cb6 HG2.out; obtain ⟨z0, z1, z2, z3, z4, z5⟩ := cbf HG2.out) | (have HG2 := Lib.hid (show Cb w1.heap.size 63 (cca noChg) w2 from (cb_new w1 63 (cca noChg)).off ho (by have := HO1.out.size; omega)); obtain ⟨u0, u1, u2, u3, u4, u5⟩ := cb6 HG2.out; obtain ⟨z0, z1, z2, z3, z4, z5⟩ := cbf HG2.out) | skip); clear hm ho; refine ⟨_, rfl, ?_⟩)))
  all_goals
    clear hW0
    have HOW := Lib.hid ((Off.of_below HB0.out).seq HO2.out)
    have HA2 := Lib.hid (HA0.out.off HO2.out (by omega))
    have hs2 := HO2.out.size
    first
      | (have HE := Lib.hid (show CE w bm va c bs q2 d2 W0.heap.size ⟨key, false, vk, vn, vf, vs⟩ ((((((w2.setCell ⟨W0.heap.size, 0, none⟩ (.int .i64 key)).setCell ⟨W0.heap.size, 1, none⟩ (.bool false)).setCell ⟨W0.heap.size, 2, none⟩ (.int .u8 vk)).setCell ⟨W0.heap.size, 3, none⟩ (.int .i64 vn)).setCell ⟨W0.heap.size, 4, none⟩ (.int .u64 vf)).setCell ⟨W0.heap.size, 5, none⟩ (.string vs)) from ce_put HM2.out HOW.out HA2.out (show Cb W0.heap.size _ _ _ from HG2.out) hlb (by omega) HNA.out key vk vn vf vs); generalize ((((((w2.setCell ⟨W0.heap.size, 0, none⟩ (.int .i64 key)).setCell ⟨W0.heap.size, 1, none⟩ (.bool false)).setCell ⟨W0.heap.size, 2, none⟩ (.int .u8 vk)).setCell ⟨W0.heap.size, 3, none⟩ (.int .i64 vn)).setCell ⟨W0.heap.size, 4, none⟩ (.int .u64 vf)).setCell ⟨W0.heap.size, 5, none⟩ (.string vs)) = w3 at *; generalize W0.heap.size = g at *)
      | (have HE := Lib.hid (show CE w bm va c bs q2 d2 w1.heap.size ⟨key, false, vk, vn, vf, vs⟩ ((((((w2.setCell ⟨w1.heap.size, 0, none⟩ (.int .i64 key)).setCell ⟨w1.heap.size, 1, none⟩ (.bool false)).setCell ⟨w1.heap.size, 2, none⟩ (.int .u8 vk)).setCell ⟨w1.heap.size, 3, none⟩ (.int .i64 vn)).setCell ⟨w1.heap.size, 4, none⟩ (.int .u64 vf)).setCell ⟨w1.heap.size, 5, none⟩ (.string vs)) from ce_put HM2.out HOW.out HA2.out (show Cb w1.heap.size _ _ _ from HG2.out) hlb (by have := HO1.out.size; omega) HNA.out key vk vn vf vs); generalize ((((((w2.setCell ⟨w1.heap.size, 0, none⟩ (.int .i64 key)).setCell ⟨w1.heap.size, 1, none⟩ (.bool false)).setCell ⟨w1.heap.size, 2, none⟩ (.int .u8 vk)).setCell ⟨w1.heap.size, 3, none⟩ (.int .i64 vn)).setCell ⟨w1.heap.size, 4, none⟩ (.int .u64 vf)).setCell ⟨w1.heap.size, 5, none⟩ (.string vs)) = w3 at *; generalize w1.heap.size = g at *)
      | (have HE := Lib.hid (ce_new HM2.out HOW.out HA2.out hlb (by omega) HNA.out ⟨key, false, vk, vn, vf, vs⟩); generalize w2.alloc (.cells (cca ⟨key, false, vk, vn, vf, vs⟩) 63) = w3 at *; generalize w2.heap.size = g at *)
      | fail
    (try clear u0 u1 u2 u3 u4 u5 z0 z1 z2 z3 z4 z5)
    obtain ⟨b0, b1, b2, b3, b4, b5⟩ := cb6 HE.out.v
    obtain ⟨f0, f1, f2, f3, f4, f5⟩ := cbf HE.out.v
    obtain ⟨bb, hbb⟩ : ∃ x, (vk == 0) = x := ⟨_, rfl⟩
    have HE2 := Lib.hid (HE.out.gone bb)
    have HCQ := Lib.hid (show chgOf (key, ⟨vk, vn, vf, vs⟩) = ⟨key, bb, vk, vn, vf, vs⟩ by unfold chgOf; rw [hbb])
    have HBBB := Lib.hid hbb
    clear hbb HM1 HM2 HO1 HO2 HA2 HOW HA0 hcc hcd hcc1 hcd1
    have hbb := HBBB.out
    go_upto_region 3 with fail
    clear hbb
    generalize w3.setCell _ _ = w4 at *
    clear b0 b1 b2 b3 b4 b5 f0 f1 f2 f3 f4 f5
    obtain ⟨b0, b1, b2, b3, b4, b5⟩ := cb6 HE2.out.v
    obtain ⟨u0, u1, u2, u3, u4, u5⟩ := cb6 HE2.out.a
    obtain ⟨f0, f1, f2, f3, f4, f5⟩ := cbf HE2.out.a
    go_wp2
    obtain ⟨y1, y2, y3⟩ := HE2.out.end
    exact bodyPost_ret (results_cell_row Tryz.results102 _ _ _ _ _ _ _ rfl y3 HSU.out rfl cinfo) rfl ⟨by rw [HCQ.out], y1, y2⟩
end Go.Proofs.YtohgopibimgjfaaGreat

/- Q7: sets and patches are read by the program's reader -/
namespace Go.Proofs.YtohgopibimgjfaaGreat
open Go.RowKit
set_option linter.unusedVariables false
set_option maxRecDepth 100000

/-- So many have been read, and how they go on. -/
structure LA (w : World) (bm : Nat) (va : Option Addr) (c : Nat) (bs : List Int) (N k j q : Nat) (d : Bool) (P : List Att) (S2 : Nat × Bool) (a : Option Addr) (l cx : Nat) (pt : List Att) (W : World) : Prop where
  m : Rd bm va c bs q d W
  o : Off (fun x => x = bm) w W
  own : W.ownsRow w.heap.size 61 5 (.slice a l cx) l (fl attC pt)
  len : l = pt.length
  kj : k + j = N
  go : pt ++ (sMany (qAtt bs) k q d).1 = P
  st : (sMany (qAtt bs) k q d).2 = S2
  lb : bm < w.heap.size
/-- A list, as it is told. -/
def RLA (bm : Nat) (va : Option Addr) (c : Nat) (bs : List Int) (w : World) (r : List Att × Nat × Bool) (e : Ending) (w' : World) : Prop := ∃ a d, e = .returned (.slice a r.1.length d) ∧ w'.ownsRow w.heap.size 61 5 (.slice a r.1.length d) r.1.length (fl attC r.1) ∧ Rd bm va c bs r.2.1 r.2.2 w' ∧ Off (fun k => k = bm) w w'
set_option maxHeartbeats 4000000 in
theorem listA_any (bm br : Nat) (va : Option Addr) (c : Nat) (bs : List Int) (p : Nat) (b : Bool) (w : World) (h : Rd bm va c bs p b w) (hc : w.cell? ⟨br, 0, none⟩ = some (.pointer (some ⟨bm, 0, none⟩))) (hb : br < w.heap.size) (hne : br ≠ bm) :
    Calls Tryz.prog 107 #[.pointer (some ⟨bm, 0, none⟩), .func (.func 108) #[] #[.pointer (some ⟨br, 0, none⟩)]] w (RLA bm va c bs w (qList bs (qAtt bs) p b)) := by
  obtain ⟨i0, hi, hz0, hz1, hz2⟩ := info_at
  have eg : ∀ args w, (callFunc 108 args).run Tryz.prog w = .ok (.enter 108 args) w := enters_of Tryz.func108 (by kernel_rfl) rfl
  have HBR := Lib.hid (fun W (ho : Off (fun k => k = bm) w W) => fun_any h hc hb hne ho)
  have HBS := Lib.hid hb
  have HNE := Lib.hid hne
  have HNA := Lib.hid (fun S hS => h.na (S := S) hS)
  have HOK := Lib.hid h.okb
  have hl := h.len
  obtain ⟨c0, c1, c2, c3, c4⟩ := h.cells
  have HN := Lib.hid (natural_any bm va c bs bs.length p b w h)
  have hlb := h.cell.lt
  have hn := nat_le bs bs.length p b
  have hq1 := (sim_nat h.okb bs.length h.at_ b).at_
  unfold qList
  generalize qNat bs bs.length p b = r at *
  obtain ⟨N, q0, d0⟩ := r
  simp only at HN hn hq1 ⊢
  obtain ⟨P, hP⟩ : ∃ P, (sMany (qAtt bs) N q0 d0).1 = P := ⟨_, rfl⟩
  obtain ⟨S2, hS2⟩ : ∃ S, (sMany (qAtt bs) N q0 d0).2 = S := ⟨_, rfl⟩
  have HST := Lib.hid (show _ ∧ _ from ⟨hP, hS2⟩)
  have HR : RLA bm va c bs w (sMany (qAtt bs) N q0 d0) = RLA bm va c bs w (P, S2) := by rw [← hP, ← hS2]
  rw [HR]
  have hpl : P.length ≤ N := by
    have := (many_all (f := qAtt bs) (P := fun _ => True) (fun p b hp => ⟨(sim_att h.okb hp b).at_, trivial⟩) N q0 d0 hq1).1
    rw [hP] at this
    exact this
  clear h hc hb hne hP hS2 HR hq1
  go_enter Tryz.func107, Tryz.ntmps107
  go_wp2_with (go_at_call 100; go_loud (refine HN.out.mono ?_; rintro e w1 ⟨rfl, hm, ho⟩; have HM1 := Lib.hid hm; have HO1 := Lib.hid ho; clear hm ho))
  clear c0 c1 c2 c3 c4
  go_loopw [6, 7] (fun x y wr => ∃ (k j q : Nat) (d : Bool) (a : Option Addr) (l cx : Nat), x = .slice a l cx ∧ y = .int .u64 j ∧ Hid (∃ pt, LA w bm va c bs N k j q d P S2 a l cx pt wr)) (fun _ y _ => N - (intOf y).toNat)
  case atStart => exact ⟨N, 0, q0, d0, none, 0, 0, rfl, rfl, Lib.hid ⟨[], HM1.out, HO1.out, World.ownsRow_nil _ _ _ _, rfl, by omega, HST.out.1, HST.out.2, hlb⟩⟩
  case round =>
    clear HM1 HO1 HN HST
    obtain ⟨k, j, q, d, xa, xl, xc, rfl, rfl, HP⟩ := hrel
    obtain ⟨pt, hL⟩ := HP.out
    have HL := Lib.hid hL
    have hkj := hL.kj
    have hxl := hL.len
    obtain ⟨c0, c1, c2, c3, c4⟩ := hL.m.cells
    have hptl : pt.length ≤ N := by
      have h := congrArg List.length hL.go
      rw [List.length_append] at h
      omega
    by_cases hgo : 0 < k ∧ d = false
    · obtain ⟨hk, rfl⟩ := hgo
      obtain ⟨k', rfl⟩ : ∃ k', k = k' + 1 := ⟨k - 1, by omega⟩
      have dk : decide (j < N) = true := decide_eq_true (by omega)
      have HG := Lib.hid (goes hL.go hL.st)
      have HC := Lib.hid (cloA_any bm br va c bs q false wr hL.m (HBR.out _ hL.o) (Nat.lt_of_lt_of_le HBS.out hL.o.size) HNE.out)
      obtain ⟨R, hR⟩ : ∃ R, qAtt bs q false = R := ⟨_, rfl⟩
      rw [hR] at HG HC
      obtain ⟨A, q2, d2⟩ := R
      simp only at HG HC
      have HXL := Lib.hid hxl
      have HKJ := Lib.hid hkj
      have hxb : xl ≤ 50000000 := by omega
      have hjb : j ≤ 50000000 := by omega
      clear HP hL hR hxl hkj
      go_wp2_with (first
        | (go_at_fn 108; go_loud (refine HC.out.mono ?_; rintro e w2 ⟨rfl, hm, ho⟩; have HM2 := Lib.hid (hm.below (kbelow_one w2 (.cells (aca A) 61))); have HO2 := Lib.hid ((HL.out.o.seq ho).seq (Off.of_below (kbelow_one w2 (.cells (aca A) 61)))); have HW2 := Lib.hid (owns_below (owns_kept HL.out.own (fun g hg => ho.block g (own_lt7 HL.out.own hg) (fun hh => by have := own_base HL.out.own hg; have := HL.out.lb; omega))) (kbelow_one w2 (.cells (aca A) 61))); have HZR := Lib.hid (Row.built (C := attC) w2 61 [A] (by simp [maxLen])); clear hm ho))
        | (at_builtin; go_loud (refine wpList_append_rowL (C := attC) rfl (.tmp 28) (.tmp 31) 53 rfl w.heap.size 61 i0 _ 48 Tryz.underlying53 hi hz0 hz1 hz2 rfl (.slice xa xl xc) xl (fl attC pt) rfl HW2.out _ [A] rfl HZR.out (by simp) (by unfold maxLen; (try simp only [List.length_cons, List.length_nil]); omega) (by (try simp only [List.length_cons, List.length_nil]); omega) HO2.out.size ?_); intro g3 cap3 w3 hown hgrow hlies hlt; have HO3 := Lib.hid hown; have HGR := Lib.hid hgrow; clear hown hgrow hlies hlt))
      have HOF := Lib.hid (Off.of_grown (S := fun k => (Value.slice xa xl xc).ownBlock = some k) HGR.out (fun k hk => hk))
      have HBK := Lib.hid (fun k (hk : (Value.slice xa xl xc).ownBlock = some k) => own_base HW2.out hk)
      have HLN := Lib.hid (show LA w bm va c bs N k' (j + 1) q2 d2 P S2 (some ⟨g3, 0, none⟩) (xl + 1) cap3 (pt ++ [A]) w3 from
        ⟨HM2.out.off HOF.out (fun hh => by have := HBK.out _ hh; omega) (HNA.out _ (fun k hk => HBK.out k hk)), off_more HO2.out HOF.out (fun x hx => .inr (HBK.out x hx)), by rw [fl_app]; exact HO3.out, by rw [List.length_append, List.length_singleton]; have := HXL.out; omega, by have := HKJ.out; omega, HG.out.1, HG.out.2, hlb⟩)
      go_roundw
      case rel => exact ⟨k', j + 1, q2, d2, _, _, _, rfl, by go_num, Lib.hid ⟨_, HLN.out⟩⟩
      case measure => have := HKJ.out; simp [intOf]; omega
    · have hE : k = 0 ∨ d = true := by
        by_cases h0 : k = 0
        · exact .inl h0
        · cases d
          · exact absurd ⟨by omega, rfl⟩ hgo
          · exact .inr rfl
      obtain ⟨hp, hs⟩ := ends hE hL.go hL.st
      have HE : RLA bm va c bs w (P, S2) (.returned (.slice xa xl xc)) wr := by
        have hown := hL.own
        subst hp
        subst hs
        subst hxl
        exact ⟨xa, xc, rfl, hown, hL.m, hL.o⟩
      have HEE := Lib.hid HE
      have HKJ := Lib.hid hkj
      clear hL HL HP hgo hp hs HE hxl
      rcases hE with rfl | rfl
      · have dk : decide (j < N) = false := decide_eq_false (by omega)
        clear hkj
        go_wp2
        go_ret
        exact HEE.out
      · by_cases hk0 : 0 < k
        · have dk : decide (j < N) = true := decide_eq_true (by omega)
          clear hkj
          go_wp2
          go_ret
          exact HEE.out
        · have dk : decide (j < N) = false := decide_eq_false (by omega)
          clear hkj
          go_wp2
          go_ret
          exact HEE.out
/-- So many have been read, and how they go on. -/
structure LC (w : World) (bm : Nat) (va : Option Addr) (c : Nat) (bs : List Int) (N k j q : Nat) (d : Bool) (P : List Chg) (S2 : Nat × Bool) (a : Option Addr) (l cx : Nat) (pt : List Chg) (W : World) : Prop where
  m : Rd bm va c bs q d W
  o : Off (fun x => x = bm) w W
  own : W.ownsRow w.heap.size 63 6 (.slice a l cx) l (fl chC pt)
  len : l = pt.length
  kj : k + j = N
  go : pt ++ (sMany (qChg bs) k q d).1 = P
  st : (sMany (qChg bs) k q d).2 = S2
  lb : bm < w.heap.size
/-- A list, as it is told. -/
def RLC (bm : Nat) (va : Option Addr) (c : Nat) (bs : List Int) (w : World) (r : List Chg × Nat × Bool) (e : Ending) (w' : World) : Prop := ∃ a d, e = .returned (.slice a r.1.length d) ∧ w'.ownsRow w.heap.size 63 6 (.slice a r.1.length d) r.1.length (fl chC r.1) ∧ Rd bm va c bs r.2.1 r.2.2 w' ∧ Off (fun k => k = bm) w w'
set_option maxHeartbeats 4000000 in
theorem listC_any (bm br : Nat) (va : Option Addr) (c : Nat) (bs : List Int) (p : Nat) (b : Bool) (w : World) (h : Rd bm va c bs p b w) (hc : w.cell? ⟨br, 0, none⟩ = some (.pointer (some ⟨bm, 0, none⟩))) (hb : br < w.heap.size) (hne : br ≠ bm) :
    Calls Tryz.prog 101 #[.pointer (some ⟨bm, 0, none⟩), .func (.func 102) #[] #[.pointer (some ⟨br, 0, none⟩)]] w (RLC bm va c bs w (qList bs (qChg bs) p b)) := by
  obtain ⟨i0, hi, hz0, hz1, hz2⟩ := info_ch
  have eg : ∀ args w, (callFunc 102 args).run Tryz.prog w = .ok (.enter 102 args) w := enters_of Tryz.func102 (by kernel_rfl) rfl
  have HBR := Lib.hid (fun W (ho : Off (fun k => k = bm) w W) => fun_any h hc hb hne ho)
  have HBS := Lib.hid hb
  have HNE := Lib.hid hne
  have HNA := Lib.hid (fun S hS => h.na (S := S) hS)
  have HOK := Lib.hid h.okb
  have hl := h.len
  obtain ⟨c0, c1, c2, c3, c4⟩ := h.cells
  have HN := Lib.hid (natural_any bm va c bs bs.length p b w h)
  have hlb := h.cell.lt
  have hn := nat_le bs bs.length p b
  have hq1 := (sim_nat h.okb bs.length h.at_ b).at_
  unfold qList
  generalize qNat bs bs.length p b = r at *
  obtain ⟨N, q0, d0⟩ := r
  simp only at HN hn hq1 ⊢
  obtain ⟨P, hP⟩ : ∃ P, (sMany (qChg bs) N q0 d0).1 = P := ⟨_, rfl⟩
  obtain ⟨S2, hS2⟩ : ∃ S, (sMany (qChg bs) N q0 d0).2 = S := ⟨_, rfl⟩
  have HST := Lib.hid (show _ ∧ _ from ⟨hP, hS2⟩)
  have HR : RLC bm va c bs w (sMany (qChg bs) N q0 d0) = RLC bm va c bs w (P, S2) := by rw [← hP, ← hS2]
  rw [HR]
  have hpl : P.length ≤ N := by
    have := (many_all (f := qChg bs) (P := fun _ => True) (fun p b hp => ⟨(sim_chg h.okb hp b).at_, trivial⟩) N q0 d0 hq1).1
    rw [hP] at this
    exact this
  clear h hc hb hne hP hS2 HR hq1
  go_enter Tryz.func101, Tryz.ntmps101
  go_wp2_with (go_at_call 100; go_loud (refine HN.out.mono ?_; rintro e w1 ⟨rfl, hm, ho⟩; have HM1 := Lib.hid hm; have HO1 := Lib.hid ho; clear hm ho))
  clear c0 c1 c2 c3 c4
  go_loopw [6, 7] (fun x y wr => ∃ (k j q : Nat) (d : Bool) (a : Option Addr) (l cx : Nat), x = .slice a l cx ∧ y = .int .u64 j ∧ Hid (∃ pt, LC w bm va c bs N k j q d P S2 a l cx pt wr)) (fun _ y _ => N - (intOf y).toNat)
  case atStart => exact ⟨N, 0, q0, d0, none, 0, 0, rfl, rfl, Lib.hid ⟨[], HM1.out, HO1.out, World.ownsRow_nil _ _ _ _, rfl, by omega, HST.out.1, HST.out.2, hlb⟩⟩
  case round =>
    clear HM1 HO1 HN HST
    obtain ⟨k, j, q, d, xa, xl, xc, rfl, rfl, HP⟩ := hrel
    obtain ⟨pt, hL⟩ := HP.out
    have HL := Lib.hid hL
    have hkj := hL.kj
    have hxl := hL.len
    obtain ⟨c0, c1, c2, c3, c4⟩ := hL.m.cells
    have hptl : pt.length ≤ N := by
      have h := congrArg List.length hL.go
      rw [List.length_append] at h
      omega
    by_cases hgo : 0 < k ∧ d = false
    · obtain ⟨hk, rfl⟩ := hgo
      obtain ⟨k', rfl⟩ : ∃ k', k = k' + 1 := ⟨k - 1, by omega⟩
      have dk : decide (j < N) = true := decide_eq_true (by omega)
      have HG := Lib.hid (goes hL.go hL.st)
      have HC := Lib.hid (cloC_any bm br va c bs q false wr hL.m (HBR.out _ hL.o) (Nat.lt_of_lt_of_le HBS.out hL.o.size) HNE.out)
      obtain ⟨R, hR⟩ : ∃ R, qChg bs q false = R := ⟨_, rfl⟩
      rw [hR] at HG HC
      obtain ⟨A, q2, d2⟩ := R
      simp only at HG HC
      have HXL := Lib.hid hxl
      have HKJ := Lib.hid hkj
      have hxb : xl ≤ 50000000 := by omega
      have hjb : j ≤ 50000000 := by omega
      clear HP hL hR hxl hkj
      go_wp2_with (first
        | (go_at_fn 102; go_loud (refine HC.out.mono ?_; rintro e w2 ⟨rfl, hm, ho⟩; have HM2 := Lib.hid (hm.below (kbelow_one w2 (.cells (cca A) 63))); have HO2 := Lib.hid ((HL.out.o.seq ho).seq (Off.of_below (kbelow_one w2 (.cells (cca A) 63)))); have HW2 := Lib.hid (owns_below (owns_kept HL.out.own (fun g hg => ho.block g (own_lt7 HL.out.own hg) (fun hh => by have := own_base HL.out.own hg; have := HL.out.lb; omega))) (kbelow_one w2 (.cells (cca A) 63))); have HZR := Lib.hid (Row.built (C := chC) w2 63 [A] (by simp [maxLen])); clear hm ho))
        | (at_builtin; go_loud (refine wpList_append_rowL (C := chC) rfl (.tmp 28) (.tmp 31) 54 rfl w.heap.size 63 i0 _ 56 Tryz.underlying54 hi hz0 hz1 hz2 rfl (.slice xa xl xc) xl (fl chC pt) rfl HW2.out _ [A] rfl HZR.out (by simp) (by unfold maxLen; (try simp only [List.length_cons, List.length_nil]); omega) (by (try simp only [List.length_cons, List.length_nil]); omega) HO2.out.size ?_); intro g3 cap3 w3 hown hgrow hlies hlt; have HO3 := Lib.hid hown; have HGR := Lib.hid hgrow; clear hown hgrow hlies hlt))
      have HOF := Lib.hid (Off.of_grown (S := fun k => (Value.slice xa xl xc).ownBlock = some k) HGR.out (fun k hk => hk))
      have HBK := Lib.hid (fun k (hk : (Value.slice xa xl xc).ownBlock = some k) => own_base HW2.out hk)
      have HLN := Lib.hid (show LC w bm va c bs N k' (j + 1) q2 d2 P S2 (some ⟨g3, 0, none⟩) (xl + 1) cap3 (pt ++ [A]) w3 from
        ⟨HM2.out.off HOF.out (fun hh => by have := HBK.out _ hh; omega) (HNA.out _ (fun k hk => HBK.out k hk)), off_more HO2.out HOF.out (fun x hx => .inr (HBK.out x hx)), by rw [fl_app]; exact HO3.out, by rw [List.length_append, List.length_singleton]; have := HXL.out; omega, by have := HKJ.out; omega, HG.out.1, HG.out.2, hlb⟩)
      go_roundw
      case rel => exact ⟨k', j + 1, q2, d2, _, _, _, rfl, by go_num, Lib.hid ⟨_, HLN.out⟩⟩
      case measure => have := HKJ.out; simp [intOf]; omega
    · have hE : k = 0 ∨ d = true := by
        by_cases h0 : k = 0
        · exact .inl h0
        · cases d
          · exact absurd ⟨by omega, rfl⟩ hgo
          · exact .inr rfl
      obtain ⟨hp, hs⟩ := ends hE hL.go hL.st
      have HE : RLC bm va c bs w (P, S2) (.returned (.slice xa xl xc)) wr := by
        have hown := hL.own
        subst hp
        subst hs
        subst hxl
        exact ⟨xa, xc, rfl, hown, hL.m, hL.o⟩
      have HEE := Lib.hid HE
      have HKJ := Lib.hid hkj
      clear hL HL HP hgo hp hs HE hxl
      rcases hE with rfl | rfl
      · have dk : decide (j < N) = false := decide_eq_false (by omega)
        clear hkj
        go_wp2
        go_ret
        exact HEE.out
      · by_cases hk0 : 0 < k
        · have dk : decide (j < N) = true := decide_eq_true (by omega)
          clear hkj
          go_wp2
          go_ret
          exact HEE.out
        · have dk : decide (j < N) = false := decide_eq_false (by omega)
          clear hkj
          go_wp2
          go_ret
          exact HEE.out
theorem rset_any (bm : Nat) (va : Option Addr) (c : Nat) (bs : List Int) (p : Nat) (b : Bool) (w : World) (h : Rd bm va c bs p b w) :
    Calls Tryz.prog 68 #[.pointer (some ⟨bm, 0, none⟩)] w (RLA bm va c bs w (qList bs (qAtt bs) p b)) := by
  have hb := kbelow_one w (.cells #[.pointer (some ⟨bm, 0, none⟩)] 74)
  have hcb := cb_new w 74 #[.pointer (some ⟨bm, 0, none⟩)]
  have hlt := h.cell.lt
  have HL := Lib.hid (listA_any bm w.heap.size va c bs p b _ (h.below hb) (hcb.cell 0) (by simp) (by omega))
  have HB := Lib.hid hb
  have c0 := hcb.cell 0
  clear h hb hcb hlt
  go_enter Tryz.func68, Tryz.ntmps68
  go_wp2_with (go_at_call 107; go_loud (refine HL.out.mono ?_; rintro e w1 ⟨a, d, rfl, hown, hm, ho⟩; have HOW := Lib.hid (owns_mono hown HB.out.size); have HM := Lib.hid hm; have HO := Lib.hid ((Off.of_below (S := fun k => k = bm) HB.out).seq ho); clear hown hm ho))
  go_ret
  exact ⟨a, d, rfl, HOW.out, HM.out, HO.out⟩
theorem rpatch_any (bm : Nat) (va : Option Addr) (c : Nat) (bs : List Int) (p : Nat) (b : Bool) (w : World) (h : Rd bm va c bs p b w) :
    Calls Tryz.prog 66 #[.pointer (some ⟨bm, 0, none⟩)] w (RLC bm va c bs w (qList bs (qChg bs) p b)) := by
  have hb := kbelow_one w (.cells #[.pointer (some ⟨bm, 0, none⟩)] 74)
  have hcb := cb_new w 74 #[.pointer (some ⟨bm, 0, none⟩)]
  have hlt := h.cell.lt
  have HL := Lib.hid (listC_any bm w.heap.size va c bs p b _ (h.below hb) (hcb.cell 0) (by simp) (by omega))
  have HB := Lib.hid hb
  have c0 := hcb.cell 0
  clear h hb hcb hlt
  go_enter Tryz.func66, Tryz.ntmps66
  go_wp2_with (go_at_call 101; go_loud (refine HL.out.mono ?_; rintro e w1 ⟨a, d, rfl, hown, hm, ho⟩; have HOW := Lib.hid (owns_mono hown HB.out.size); have HM := Lib.hid hm; have HO := Lib.hid ((Off.of_below (S := fun k => k = bm) HB.out).seq ho); clear hown hm ho))
  go_ret
  exact ⟨a, d, rfl, HOW.out, HM.out, HO.out⟩
end Go.Proofs.YtohgopibimgjfaaGreat

/- Q8: an op is read by the program's reader -/
namespace Go.Proofs.YtohgopibimgjfaaGreat
open Go.RowKit
set_option linter.unusedVariables false
set_option maxRecDepth 100000

theorem oinfo : (Tryz.prog.info? 56).map (·.size) = some 5 := by kernel_rfl
@[reducible] def zK (k : Int) : Oz := ⟨k, 0, none, 0, [], none, 0, [], none, 0, []⟩
theorem own_zK (F : Nat → Prop) (W : World) (k : Int) : OpOwn F W (zK k) :=
  ⟨World.ownsRow_nil _ _ _ _, World.ownsRow_nil _ _ _ _, World.ownsRow_nil _ _ _ _, fun g hg => (by simp [Value.ownBlock] at hg), fun g hg => (by simp [Value.ownBlock] at hg), fun g hg => (by simp [Value.ownBlock] at hg)⟩
/-- A reader, what a call wrote, and the two variables of an op. -/
structure OS (w : World) (bm : Nat) (va : Option Addr) (c : Nat) (bs : List Int) (q : Nat) (d : Bool) (g : Nat) (z : Oz) (W : World) : Prop where
  m : Rd bm va c bs q d W
  o : Off (fun x => x = bm) w W
  a : Cb w.heap.size 56 (zK 0).cs W
  v : Cb g 56 z.cs W
  own : OpOwn (fun x => g < x) W z
  lb : bm < w.heap.size
  lg : w.heap.size < g
  na : ∀ S : Nat → Prop, (∀ k, S k → w.heap.size ≤ k) → Na S va bs.length
section
variable {w W W2 : World} {bm c q q2 g : Nat} {va : Option Addr} {bs : List Int} {d d2 : Bool} {z z2 : Oz}
theorem OS.call (h : OS w bm va c bs q d g z W) (hm : Rd bm va c bs q2 d2 W2) (ho : Off (fun x => x = bm) W W2) : OS w bm va c bs q2 d2 g z W2 := by
  have h1 := h.lb
  have h2 := h.lg
  exact ⟨hm, h.o.seq ho, h.a.off ho (by omega), h.v.off ho (by omega), h.own.off ho (fun k hk _ hh => by omega), h1, h2, h.na⟩
theorem OS.set {j : Nat} {u : Value} (h : OS w bm va c bs q d g z W) (hcs : z.cs.setIfInBounds j u = z2.cs) (hz : OpOwn (fun x => g < x) W z2) : OS w bm va c bs q d g z2 (W.setCell ⟨g, j, none⟩ u) := by
  have h1 := h.lb
  have h2 := h.lg
  have hf := mo_off (bm := g) (W := W) u j
  refine ⟨h.m.off hf (by omega) (h.na _ (fun k hk => by omega)), off_more h.o hf (fun x hx => .inr (by omega)), h.a.off hf (by omega), ?_, hz.off hf (fun k hk _ hh => by omega), h1, h2, h.na⟩
  have := heap_set (o := j) u h.v
  rw [hcs] at this
  exact this
theorem OS.setN (h : OS w bm va c bs q d g z W) (n : Int) : OS w bm va c bs q d g { z with n := n } (W.setCell ⟨g, 1, none⟩ (.int .i64 n)) :=
  h.set rfl ⟨h.own.r, h.own.s, h.own.p, h.own.fr, h.own.fs, h.own.fp⟩
theorem own_zero {W : World} {B m n : Nat} {e : TypeId} {v : Value} {xs : List Value} (ho : W.ownsRow B e m v n xs) : W.ownsRow 0 e m v n xs := owns_mono ho (Nat.zero_le _)
theorem OS.setR {ra : Option Addr} {rc B : Nat} {rs : List Int} (h : OS w bm va c bs q d g z W) (ho : W.ownsRow B 21 1 (.slice ra rs.length rc) rs.length (rs.map (Value.int .i32))) (hB : g < B) : OS w bm va c bs q d g { z with ra := ra, rc := rc, rs := rs } (W.setCell ⟨g, 2, none⟩ (.slice ra rs.length rc)) :=
  h.set rfl ⟨own_zero ho, h.own.s, h.own.p, fun k hk => by have := own_base ho hk; omega, h.own.fs, h.own.fp⟩
theorem OS.setS {ra : Option Addr} {rc B : Nat} {rs : List Att} (h : OS w bm va c bs q d g z W) (ho : W.ownsRow B 61 5 (.slice ra rs.length rc) rs.length (fl attC rs)) (hB : g < B) : OS w bm va c bs q d g { z with sa := ra, sc := rc, st := rs } (W.setCell ⟨g, 3, none⟩ (.slice ra rs.length rc)) :=
  h.set rfl ⟨h.own.r, own_zero ho, h.own.p, h.own.fr, fun k hk => by have := own_base ho hk; omega, h.own.fp⟩
theorem OS.setP {ra : Option Addr} {rc B : Nat} {rs : List Chg} (h : OS w bm va c bs q d g z W) (ho : W.ownsRow B 63 6 (.slice ra rs.length rc) rs.length (fl chC rs)) (hB : g < B) : OS w bm va c bs q d g { z with pa := ra, pc := rc, pt := rs } (W.setCell ⟨g, 4, none⟩ (.slice ra rs.length rc)) :=
  h.set rfl ⟨h.own.r, h.own.s, own_zero ho, h.own.fr, h.own.fs, fun k hk => by have := own_base ho hk; omega⟩
theorem OS.begin {p : Nat} {b : Bool} (h : Rd bm va c bs p b w) (hm : Rd bm va c bs q d W) (ho : Off (fun x => x = bm) (w.alloc (.cells (zK 0).cs 56)) W) (k : Int) : OS w bm va c bs q d W.heap.size (zK k) (W.alloc (.cells (zK k).cs 56)) := by
  have hl := h.cell.lt
  have hb := kbelow_one W (.cells (zK k).cs 56)
  have hs := ho.size
  have e : (w.alloc (.cells (zK 0).cs 56)).heap.size = w.heap.size + 1 := by simp
  exact ⟨hm.below hb, ((Off.of_below (kbelow_one w _)).seq ho).seq (Off.of_below hb), ((cb_new w _ _).off ho (by omega)).below hb, cb_new _ _ _, own_zK _ _ _, hl, by omega, fun S hS => h.na hS⟩
@[reducible] def putO (W : World) (g : Nat) (z : Oz) : World := ((((W.setCell ⟨g, 0, none⟩ (.int .u8 z.k)).setCell ⟨g, 1, none⟩ (.int .i64 z.n)).setCell ⟨g, 2, none⟩ (.slice z.ra z.rs.length z.rc)).setCell ⟨g, 3, none⟩ (.slice z.sa z.st.length z.sc)).setCell ⟨g, 4, none⟩ (.slice z.pa z.pt.length z.pc)
theorem putO_off (W : World) (g : Nat) (z : Oz) : Off (fun x => x = g) W (putO W g z) :=
  ((((mo_off (bm := g) _ 0).seq (mo_off _ 1)).seq (mo_off _ 2)).seq (mo_off _ 3)).seq (mo_off _ 4)
theorem putO_row {W : World} {g : Nat} {z y : Oz} (h : Cb g 56 y.cs W) : Cb g 56 z.cs (putO W g z) :=
  heap_set _ (heap_set _ (heap_set _ (heap_set _ (heap_set _ h))))
theorem OS.end (h : OS w bm va c bs q d g z W) : (Rd bm va c bs q d (putO W w.heap.size z) ∧ Off (fun x => x = bm) w (putO W w.heap.size z)) ∧ Cb w.heap.size 56 z.cs (putO W w.heap.size z) ∧ OpOwn (fun x => w.heap.size ≤ x) (putO W w.heap.size z) z := by
  have h1 := h.lb
  have h2 := h.lg
  exact ⟨⟨h.m.off (putO_off _ _ _) (by omega) (h.na _ (fun k hk => by omega)), off_more h.o (putO_off _ _ _) (fun x hx => .inr (by omega))⟩, putO_row h.a, (h.own.off (putO_off _ _ _) (fun k hk _ hh => by omega)).mono (fun x hx => by omega)⟩
end
/-- An op of its own, as it is told. -/
def RdO (bm : Nat) (va : Option Addr) (c : Nat) (bs : List Int) (w : World) (r : Opn × Nat × Bool) (e : Ending) (w' : World) : Prop := ∃ z : Oz, e = .returned z.v ∧ z.o = r.1 ∧ OpOwn (fun g => w.heap.size ≤ g) w' z ∧ Rd bm va c bs r.2.1 r.2.2 w' ∧ Off (fun k => k = bm) w w'
set_option maxHeartbeats 8000000 in
theorem cloO_any (bm br : Nat) (va : Option Addr) (c : Nat) (bs : List Int) (p : Nat) (b : Bool) (w : World) (h : Rd bm va c bs p b w) (hc : w.cell? ⟨br, 0, none⟩ = some (.pointer (some ⟨bm, 0, none⟩))) (hb : br < w.heap.size) (hne : br ≠ bm) :
    Calls Tryz.prog 63 #[.pointer (some ⟨br, 0, none⟩)] w (RdO bm va c bs w (qOp bs p b)) := by
  have HKP := Lib.hid (fun W (ho : Off (fun k => k = bm) w W) => fun_any h hc hb hne ho)
  have HK := Lib.hid (rkind_any bm va c bs p b _ (h.below (kbelow_one w (.cells (zK 0).cs 56))))
  have hc0 := hc
  have HR := Lib.hid h
  have HOK := Lib.hid h.okb
  have hk := nat_le bs 255 p b
  have HSU := Lib.hid Tryz.underlying56
  have e : qOp bs p b = qOpK bs (qNat bs 255 p b).1 (qNat bs 255 p b).2.1 (qNat bs 255 p b).2.2 := rfl
  rw [e]
  have hq := (sim_nat h.okb 255 h.at_ b).at_
  generalize qNat bs 255 p b = r at *
  obtain ⟨k, q, d⟩ := r
  simp only at HK hk hq ⊢
  clear h e hc
  by_cases k1 : k = 1
  · subst k1
    have e1 : qOpK bs 1 q d = (opR ((qKey bs q d).1, (qList bs (qChg bs) (qKey bs q d).2.1 (qKey bs q d).2.2).1), (qList bs (qChg bs) (qKey bs q d).2.1 (qKey bs q d).2.2).2) := rfl
    rw [e1]
    have HNU := Lib.hid (fun W (hm : Rd bm va c bs q d W) => rnumber_any bm va c bs q d W hm)
    generalize qKey bs q d = r at *
    obtain ⟨n, q2, d2⟩ := r
    simp only at HNU ⊢
    have HPA := Lib.hid (fun W (hm : Rd bm va c bs q2 d2 W) => rpatch_any bm va c bs q2 d2 W hm)
    generalize qList bs (qChg bs) q2 d2 = r at *
    obtain ⟨pt, q3, d3⟩ := r
    unfold RLC at HPA
    simp only at HPA ⊢
    clear e1
    go_enter Tryz.func63, Tryz.ntmps63
    go_upto_region 11 with (first
      | (go_at_call 64; go_loud (refine HK.out.mono ?_; rintro e w1 ⟨rfl, hm, ho⟩; have HV := Lib.hid (OS.begin HR.out hm ho 1); obtain ⟨b0, b1, b2, b3, b4⟩ := cb5 HV.out.v; obtain ⟨f0, f1, f2, f3, f4, -⟩ := cbf HV.out.v; have hcc := HKP.out w1 ((Off.of_below (kbelow_one w _)).seq ho); have hb1 : br < w1.heap.size := (Nat.lt_of_lt_of_le hb (show Off (fun k => k = bm) w w1 from (Off.of_below (kbelow_one w _)).seq ho).size); have hbg : br ≠ w1.heap.size := Nat.ne_of_lt hb1; clear hm ho hc0))
      | (go_at_call 65; go_loud (refine (HNU.out _ HV.out.m).mono ?_; rintro e w2 ⟨rfl, hm, ho⟩; have HV2 := Lib.hid (HV.out.call hm ho); have HV3 := Lib.hid (HV2.out.setN (n : Nat)); clear b0 b1 b2 b3 b4 f0 f1 f2 f3 f4 hcc; obtain ⟨b0, b1, b2, b3, b4⟩ := cb5 HV2.out.v; obtain ⟨f0, f1, f2, f3, f4, -⟩ := cbf HV2.out.v; have hcc := HKP.out _ HV2.out.o; clear hm ho))
      | (go_at_call 66; go_loud (refine (HPA.out _ HV3.out.m).mono ?_; rintro e w3 ⟨pa, pc, rfl, hown, hm, ho⟩; have HV4 := Lib.hid (HV3.out.call hm ho); have HOW := Lib.hid hown; clear b0 b1 b2 b3 b4 f0 f1 f2 f3 f4 hcc; obtain ⟨b0, b1, b2, b3, b4⟩ := cb5 HV4.out.v; obtain ⟨f0, f1, f2, f3, f4, -⟩ := cbf HV4.out.v; clear hm ho hown)))
    have HGL := Lib.hid (show w1.heap.size < (w2.setCell ⟨w1.heap.size, 1, none⟩ (.int .i64 (n : Nat))).heap.size from HV3.out.v.lt)
    have HE := Lib.hid (HV4.out.setP HOW.out HGL.out)
    generalize w3.setCell _ _ = w4 at *
    generalize w1.heap.size = g at *
    clear b0 b1 b2 b3 b4 f0 f1 f2 f3 f4 HV HV2 HV3 HV4 HOW HNU HPA HGL
    clear HK HR HKP hbg hb1
    obtain ⟨b0, b1, b2, b3, b4⟩ := cb5 HE.out.v
    obtain ⟨u0, u1, u2, u3, u4⟩ := cb5 HE.out.a
    obtain ⟨f0, f1, f2, f3, f4, -⟩ := cbf HE.out.a
    go_wp2
    obtain ⟨⟨y1, y2⟩, y3, y4⟩ := HE.out.end
    exact bodyPost_ret (results_cell_row Tryz.results63 _ _ _ _ _ _ _ rfl y3 HSU.out rfl oinfo) rfl ⟨_, rfl, rfl, y4, y1, y2⟩
  by_cases k2 : k = 2
  · subst k2
    have e1 : qOpK bs 2 q d = (opI ((qRun bs q d).1, (qList bs (qAtt bs) (qRun bs q d).2.1 (qRun bs q d).2.2).1), (qList bs (qAtt bs) (qRun bs q d).2.1 (qRun bs q d).2.2).2) := rfl
    rw [e1]
    have HNU := Lib.hid (fun W (hm : Rd bm va c bs q d W) => text_anyR bm va c bs q d W hm)
    generalize qRun bs q d = r at *
    obtain ⟨rs, q2, d2⟩ := r
    unfold RdR at HNU
    simp only at HNU ⊢
    have HPA := Lib.hid (fun W (hm : Rd bm va c bs q2 d2 W) => rset_any bm va c bs q2 d2 W hm)
    generalize qList bs (qAtt bs) q2 d2 = r at *
    obtain ⟨st, q3, d3⟩ := r
    unfold RLA at HPA
    simp only at HPA ⊢
    clear e1
    go_enter Tryz.func63, Tryz.ntmps63
    go_upto_region 11 with (first
      | (go_at_call 64; go_loud (refine HK.out.mono ?_; rintro e w1 ⟨rfl, hm, ho⟩; have HV := Lib.hid (OS.begin HR.out hm ho 2); obtain ⟨b0, b1, b2, b3, b4⟩ := cb5 HV.out.v; obtain ⟨f0, f1, f2, f3, f4, -⟩ := cbf HV.out.v; have hcc := HKP.out w1 ((Off.of_below (kbelow_one w _)).seq ho); have hb1 : br < w1.heap.size := (Nat.lt_of_lt_of_le hb (show Off (fun k => k = bm) w w1 from (Off.of_below (kbelow_one w _)).seq ho).size); have hbg : br ≠ w1.heap.size := Nat.ne_of_lt hb1; clear hm ho hc0))
      | (go_at_call 67; go_loud (refine (HNU.out _ HV.out.m).mono ?_; rintro e w2 ⟨ra, rc, rfl, hown, hm, ho⟩; have HV2 := Lib.hid (HV.out.call hm ho); have HV3 := Lib.hid (HV2.out.setR hown HV.out.v.lt); clear b0 b1 b2 b3 b4 f0 f1 f2 f3 f4 hcc; obtain ⟨b0, b1, b2, b3, b4⟩ := cb5 HV2.out.v; obtain ⟨f0, f1, f2, f3, f4, -⟩ := cbf HV2.out.v; have hcc := HKP.out _ HV2.out.o; clear hm ho hown))
      | (go_at_call 68; go_loud (refine (HPA.out _ HV3.out.m).mono ?_; rintro e w3 ⟨pa, pc, rfl, hown, hm, ho⟩; have HV4 := Lib.hid (HV3.out.call hm ho); have HOW := Lib.hid hown; clear b0 b1 b2 b3 b4 f0 f1 f2 f3 f4 hcc; obtain ⟨b0, b1, b2, b3, b4⟩ := cb5 HV4.out.v; obtain ⟨f0, f1, f2, f3, f4, -⟩ := cbf HV4.out.v; clear hm ho hown)))
    have HE := Lib.hid (HV4.out.setS HOW.out HV3.out.v.lt)
    generalize w3.setCell _ _ = w4 at *
    generalize w1.heap.size = g at *
    clear b0 b1 b2 b3 b4 f0 f1 f2 f3 f4 HV HV2 HV3 HV4 HOW HNU HPA
    clear HK HR HKP hbg hb1
    obtain ⟨b0, b1, b2, b3, b4⟩ := cb5 HE.out.v
    obtain ⟨u0, u1, u2, u3, u4⟩ := cb5 HE.out.a
    obtain ⟨f0, f1, f2, f3, f4, -⟩ := cbf HE.out.a
    go_wp2
    obtain ⟨⟨y1, y2⟩, y3, y4⟩ := HE.out.end
    exact bodyPost_ret (results_cell_row Tryz.results63 _ _ _ _ _ _ _ rfl y3 HSU.out rfl oinfo) rfl ⟨_, rfl, rfl, y4, y1, y2⟩
  by_cases k3 : k = 3
  · subst k3
    have e1 : qOpK bs 3 q d = (opD (qKey bs q d).1, (qKey bs q d).2) := rfl
    rw [e1]
    have HNU := Lib.hid (fun W (hm : Rd bm va c bs q d W) => rnumber_any bm va c bs q d W hm)
    generalize qKey bs q d = r at *
    obtain ⟨n, q2, d2⟩ := r
    simp only at HNU ⊢
    clear e1
    go_enter Tryz.func63, Tryz.ntmps63
    go_upto_region 11 with (first
      | (go_at_call 64; go_loud (refine HK.out.mono ?_; rintro e w1 ⟨rfl, hm, ho⟩; have HV := Lib.hid (OS.begin HR.out hm ho 3); obtain ⟨b0, b1, b2, b3, b4⟩ := cb5 HV.out.v; obtain ⟨f0, f1, f2, f3, f4, -⟩ := cbf HV.out.v; have hcc := HKP.out w1 ((Off.of_below (kbelow_one w _)).seq ho); have hb1 : br < w1.heap.size := (Nat.lt_of_lt_of_le hb (show Off (fun k => k = bm) w w1 from (Off.of_below (kbelow_one w _)).seq ho).size); have hbg : br ≠ w1.heap.size := Nat.ne_of_lt hb1; clear hm ho hc0))
      | (go_at_call 65; go_loud (refine (HNU.out _ HV.out.m).mono ?_; rintro e w2 ⟨rfl, hm, ho⟩; have HV2 := Lib.hid (HV.out.call hm ho); clear b0 b1 b2 b3 b4 f0 f1 f2 f3 f4 hcc; obtain ⟨b0, b1, b2, b3, b4⟩ := cb5 HV2.out.v; obtain ⟨f0, f1, f2, f3, f4, -⟩ := cbf HV2.out.v; clear hm ho)))
    have HE := Lib.hid (HV2.out.setN (n : Nat))
    generalize w2.setCell _ _ = w4 at *
    generalize w1.heap.size = g at *
    clear b0 b1 b2 b3 b4 f0 f1 f2 f3 f4 HV HV2 HNU
    clear HK HR HKP hbg hb1
    obtain ⟨b0, b1, b2, b3, b4⟩ := cb5 HE.out.v
    obtain ⟨u0, u1, u2, u3, u4⟩ := cb5 HE.out.a
    obtain ⟨f0, f1, f2, f3, f4, -⟩ := cbf HE.out.a
    go_wp2
    obtain ⟨⟨y1, y2⟩, y3, y4⟩ := HE.out.end
    exact bodyPost_ret (results_cell_row Tryz.results63 _ _ _ _ _ _ _ rfl y3 HSU.out rfl oinfo) rfl ⟨_, rfl, rfl, y4, y1, y2⟩
  · have es : qOpK bs k q d = (⟨k, 0, [], [], []⟩, q, d) := by
      unfold qOpK
      rw [if_neg k1, if_neg k2, if_neg k3]
    rw [es]
    have e1 : ((k : Int) == 1) = false := by simp; omega
    have e2 : ((k : Int) == 2) = false := by simp; omega
    have e3 : ((k : Int) == 3) = false := by simp; omega
    clear es k1 k2 k3
    go_enter Tryz.func63, Tryz.ntmps63
    go_upto_region 11 with (go_at_call 64; go_loud (refine HK.out.mono ?_; rintro e w1 ⟨rfl, hm, ho⟩; have HV := Lib.hid (OS.begin HR.out hm ho k); obtain ⟨b0, b1, b2, b3, b4⟩ := cb5 HV.out.v; obtain ⟨f0, f1, f2, f3, f4, -⟩ := cbf HV.out.v; have hcc := HKP.out w1 ((Off.of_below (kbelow_one w _)).seq ho); have hb1 : br < w1.heap.size := (Nat.lt_of_lt_of_le hb (show Off (fun k => k = bm) w w1 from (Off.of_below (kbelow_one w _)).seq ho).size); have hbg : br ≠ w1.heap.size := Nat.ne_of_lt hb1; clear hm ho hc0))
    have HE := HV
    generalize w1.alloc _ = w4 at *
    generalize w1.heap.size = g at *
    clear b0 b1 b2 b3 b4 f0 f1 f2 f3 f4 hcc HV
    clear HK HR HKP hbg hb1
    obtain ⟨b0, b1, b2, b3, b4⟩ := cb5 HE.out.v
    obtain ⟨u0, u1, u2, u3, u4⟩ := cb5 HE.out.a
    obtain ⟨f0, f1, f2, f3, f4, -⟩ := cbf HE.out.a
    go_wp2
    obtain ⟨⟨y1, y2⟩, y3, y4⟩ := HE.out.end
    exact bodyPost_ret (results_cell_row Tryz.results63 _ _ _ _ _ _ _ rfl y3 HSU.out rfl oinfo) rfl ⟨_, rfl, rfl, y4, y1, y2⟩
end Go.Proofs.YtohgopibimgjfaaGreat

/- Q9: the program's Decode -/
namespace Go.Proofs.YtohgopibimgjfaaGreat
open Go.RowKit
set_option linter.unusedVariables false
set_option maxRecDepth 100000

/-- An op is put behind the ops. -/
theorem op_push {B H n cx g cap : Nat} {a : Option Addr} {xs : List Oz} {z : Oz} {W W2 : World} (hx : Oown (fun g => B ≤ g ∧ g < H) W (.slice a n cx) xs) (hz : OpOwn (fun g => H ≤ g) W z) (hn : n = xs.length) (ho : W2.ownsRow B 56 5 (.slice (some ⟨g, 0, none⟩) (n + 1) cap) (n + 1) (fl ozC xs ++ fl ozC [z])) (hg : W.grownBy W2 (Value.slice a n cx).ownBlock) (hB : B ≤ H) :
    Oown (fun g => B ≤ g) W2 (.slice (some ⟨g, 0, none⟩) (n + 1) cap) (xs ++ [z]) := by
  have hf : Off (fun k => (Value.slice a n cx).ownBlock = some k) W W2 := Off.of_grown hg (fun k hk => hk)
  have hS : ∀ k, (Value.slice a n cx).ownBlock = some k → B ≤ k ∧ k < H := hx.f
  subst hn
  refine ⟨?_, fun k hk => own_base ho hk, fun y hy => ?_, ?_⟩
  · have e : (xs ++ [z]).length = xs.length + 1 := by simp
    rw [e, fl_app]; exact owns_mono ho (Nat.zero_le _)
  · rcases List.mem_append.1 hy with hy | hy
    · have hyo := hx.own y hy
      have : OpOwn (fun g => B ≤ g ∧ g < H) W2 y := hyo.kept (fun k hk => hf.block k (own_lt7 hyo.r hk) (tag_ne hyo.r hx.row (by decide) hk)) (fun k hk => hf.block k (own_lt7 hyo.s hk) (tag_ne hyo.s hx.row (by decide) hk)) (fun k hk => hf.block k (own_lt7 hyo.p hk) (tag_ne hyo.p hx.row (by decide) hk))
      exact this.mono (fun g hg => hg.1)
    · obtain rfl := List.mem_singleton.1 hy
      have : OpOwn (fun g => H ≤ g) W2 y := hz.off hf (fun k hk _ hh => by have := hS _ hh; omega)
      exact this.mono (fun g hg => by omega)
  · rw [List.pairwise_append]
    refine ⟨hx.ap, List.pairwise_singleton _ _, fun y hy u hu k hk hk2 => ?_⟩
    obtain rfl := List.mem_singleton.1 hu
    have h1 := (hx.own y hy).fr k hk
    have h2 := hz.fr k hk2
    omega
theorem own_farO {B H n cx : Nat} {a : Option Addr} {xs : List Oz} {W : World} (hx : Oown (fun g => B ≤ g ∧ g < H) W (.slice a n cx) xs) (hl : n = xs.length) : W.ownsRow B 56 5 (.slice a n cx) n (fl ozC xs) := by
  subst hl
  have hr := hx.row
  refine ⟨hr.1, ?_⟩
  rcases hr.2 with h | ⟨g, cap, cur, e, hB, r⟩
  · exact .inl h
  · refine .inr ⟨g, cap, cur, e, ?_, r⟩
    exact (hx.f g (by rw [e]; rfl)).1
/-- So many ops have been read, and how they go on. -/
structure LO (w : World) (bm : Nat) (va : Option Addr) (c : Nat) (bs : List Int) (N k j q : Nat) (d : Bool) (P : List Opn) (S2 : Nat × Bool) (a : Option Addr) (l cx : Nat) (xs : List Oz) (W : World) : Prop where
  m : Rd bm va c bs q d W
  o : Off (fun x => x = bm) w W
  x : Oown (fun g => w.heap.size ≤ g) W (.slice a l cx) xs
  len : l = xs.length
  kj : k + j = N
  go : xs.map Oz.o ++ (sMany (qOp bs) k q d).1 = P
  st : (sMany (qOp bs) k q d).2 = S2
  lb : bm < w.heap.size
/-- The ops, as they are told. -/
def RLO (bm : Nat) (va : Option Addr) (c : Nat) (bs : List Int) (w : World) (r : List Opn × Nat × Bool) (e : Ending) (w' : World) : Prop := ∃ a n d zs, e = .returned (.slice a n d) ∧ zs.map Oz.o = r.1 ∧ Oown (fun g => w.heap.size ≤ g) w' (.slice a n d) zs ∧ Rd bm va c bs r.2.1 r.2.2 w' ∧ Off (fun k => k = bm) w w'
set_option maxHeartbeats 4000000 in
theorem listO_any (bm br : Nat) (va : Option Addr) (c : Nat) (bs : List Int) (p : Nat) (b : Bool) (w : World) (h : Rd bm va c bs p b w) (hc : w.cell? ⟨br, 0, none⟩ = some (.pointer (some ⟨bm, 0, none⟩))) (hb : br < w.heap.size) (hne : br ≠ bm) :
    Calls Tryz.prog 62 #[.pointer (some ⟨bm, 0, none⟩), .func (.func 63) #[] #[.pointer (some ⟨br, 0, none⟩)]] w (RLO bm va c bs w (qList bs (qOp bs) p b)) := by
  obtain ⟨i0, hi, hz0, hz1, hz2⟩ := info_op
  have eg : ∀ args w, (callFunc 63 args).run Tryz.prog w = .ok (.enter 63 args) w := enters_of Tryz.func63 (by kernel_rfl) rfl
  have HBR := Lib.hid (fun W (ho : Off (fun k => k = bm) w W) => fun_any h hc hb hne ho)
  have HBS := Lib.hid hb
  have HNE := Lib.hid hne
  have HNA := Lib.hid (fun S hS => h.na (S := S) hS)
  have HOK := Lib.hid h.okb
  have hl := h.len
  obtain ⟨c0, c1, c2, c3, c4⟩ := h.cells
  have HN := Lib.hid (natural_any bm va c bs bs.length p b w h)
  have hlb := h.cell.lt
  have hn := nat_le bs bs.length p b
  have hq1 := (sim_nat h.okb bs.length h.at_ b).at_
  unfold qList
  generalize qNat bs bs.length p b = r at *
  obtain ⟨N, q0, d0⟩ := r
  simp only at HN hn hq1 ⊢
  obtain ⟨P, hP⟩ : ∃ P, (sMany (qOp bs) N q0 d0).1 = P := ⟨_, rfl⟩
  obtain ⟨S2, hS2⟩ : ∃ S, (sMany (qOp bs) N q0 d0).2 = S := ⟨_, rfl⟩
  have HST := Lib.hid (show _ ∧ _ from ⟨hP, hS2⟩)
  have HR : RLO bm va c bs w (sMany (qOp bs) N q0 d0) = RLO bm va c bs w (P, S2) := by rw [← hP, ← hS2]
  rw [HR]
  have hpl : P.length ≤ N := by
    have := (many_all (f := qOp bs) (P := fun _ => True) (fun p b hp => ⟨(sim_op h.okb hp b).at_, trivial⟩) N q0 d0 hq1).1
    rw [hP] at this
    exact this
  clear h hc hb hne hP hS2 HR hq1
  go_enter Tryz.func62, Tryz.ntmps62
  go_wp2_with (go_at_call 100; go_loud (refine HN.out.mono ?_; rintro e w1 ⟨rfl, hm, ho⟩; have HM1 := Lib.hid hm; have HO1 := Lib.hid ho; clear hm ho))
  clear c0 c1 c2 c3 c4
  go_loopw [6, 7] (fun x y wr => ∃ (k j q : Nat) (d : Bool) (a : Option Addr) (l cx : Nat), x = .slice a l cx ∧ y = .int .u64 j ∧ Hid (∃ xs, LO w bm va c bs N k j q d P S2 a l cx xs wr)) (fun _ y _ => N - (intOf y).toNat)
  case atStart => exact ⟨N, 0, q0, d0, none, 0, 0, rfl, rfl, Lib.hid ⟨[], HM1.out, HO1.out, Oown.nil _ _, rfl, by omega, HST.out.1, HST.out.2, hlb⟩⟩
  case round =>
    clear HM1 HO1 HN HST
    obtain ⟨k, j, q, d, xa, xl, xc, rfl, rfl, HP⟩ := hrel
    obtain ⟨xs, hL⟩ := HP.out
    have HL := Lib.hid hL
    have hkj := hL.kj
    have hxl := hL.len
    obtain ⟨c0, c1, c2, c3, c4⟩ := hL.m.cells
    have hptl : xs.length ≤ N := by
      have h := congrArg List.length hL.go
      rw [List.length_append, List.length_map] at h
      omega
    by_cases hgo : 0 < k ∧ d = false
    · obtain ⟨hk, rfl⟩ := hgo
      obtain ⟨k', rfl⟩ : ∃ k', k = k' + 1 := ⟨k - 1, by omega⟩
      have dk : decide (j < N) = true := decide_eq_true (by omega)
      have HG := Lib.hid (goes hL.go hL.st)
      have HC := Lib.hid (cloO_any bm br va c bs q false wr hL.m (HBR.out _ hL.o) (Nat.lt_of_lt_of_le HBS.out hL.o.size) HNE.out)
      obtain ⟨R, hR⟩ : ∃ R, qOp bs q false = R := ⟨_, rfl⟩
      rw [hR] at HG HC
      obtain ⟨A, q2, d2⟩ := R
      unfold RdO at HC
      simp only at HG HC
      have HXL := Lib.hid hxl
      have HKJ := Lib.hid hkj
      have hxb : xl ≤ 50000000 := by omega
      have hjb : j ≤ 50000000 := by omega
      have HXT := Lib.hid (Oown.tight hL.x)
      have HWR := Lib.hid hL.o.size
      clear HP hL hR hxl hkj
      go_wp2_with (first
        | (go_at_fn 63; go_loud (refine HC.out.mono ?_; rintro e w2 ⟨⟨zk, zn, zra, zrc, zrs, zsa, zsc, zst, zpa, zpc, zpt⟩, rfl, hz, hzo, hm, ho⟩; have HZ := Lib.hid hz; have HBW := Lib.hid (kbelow_one w2 (.cells (opcs zk zn zra zrs.length zrc zsa zst.length zsc zpa zpt.length zpc) 56)); have HM2 := Lib.hid (hm.below HBW.out); have HO2 := Lib.hid ((HL.out.o.seq ho).seq (Off.of_below HBW.out)); have HX2 := Lib.hid ((HXT.out.off ho (fun k hk _ hh => by have := HL.out.lb; omega)).below HBW.out); have HZ2 := Lib.hid (hzo.below HBW.out); have HZR := Lib.hid (Row.built (C := ozC) w2 56 [⟨zk, zn, zra, zrc, zrs, zsa, zsc, zst, zpa, zpc, zpt⟩] (by simp [maxLen])); have HXO := Lib.hid (show (w2.alloc (.cells (opcs zk zn zra zrs.length zrc zsa zst.length zsc zpa zpt.length zpc) 56)).ownsRow w.heap.size 56 5 (.slice xa xl xc) xl (fl ozC xs) from own_farO HX2.out HXL.out); clear hm ho hz hzo))
        | (at_builtin; go_loud (refine wpList_append_rowL (C := ozC) rfl (.tmp 28) (.tmp 31) 23 rfl w.heap.size 56 i0 _ 88 Tryz.underlying23 hi hz0 hz1 hz2 rfl (.slice xa xl xc) xl (fl ozC xs) rfl HXO.out _ [⟨zk, zn, zra, zrc, zrs, zsa, zsc, zst, zpa, zpc, zpt⟩] rfl HZR.out (by simp) (by unfold maxLen; (try simp only [List.length_cons, List.length_nil]); omega) (by (try simp only [List.length_cons, List.length_nil]); omega) HO2.out.size ?_); intro g3 cap3 w3 hown hgrow hlies hlt; have HX3 := Lib.hid (op_push HX2.out HZ2.out HXL.out hown hgrow HWR.out); have HGR := Lib.hid hgrow; clear hown hgrow hlies hlt))
      have HOF := Lib.hid (Off.of_grown (S := fun k => (Value.slice xa xl xc).ownBlock = some k) HGR.out (fun k hk => hk))
      have HBK := Lib.hid (fun k (hk : (Value.slice xa xl xc).ownBlock = some k) => (HX2.out.f k hk).1)
      have HLN := Lib.hid (show LO w bm va c bs N k' (j + 1) q2 d2 P S2 (some ⟨g3, 0, none⟩) (xl + 1) cap3 (xs ++ [⟨zk, zn, zra, zrc, zrs, zsa, zsc, zst, zpa, zpc, zpt⟩]) w3 from
        ⟨HM2.out.off HOF.out (fun hh => by have := HBK.out _ hh; omega) (HNA.out _ (fun k hk => HBK.out k hk)), off_more HO2.out HOF.out (fun x hx => .inr (HBK.out x hx)), HX3.out, by rw [List.length_append, List.length_singleton]; have := HXL.out; omega, by have := HKJ.out; omega, by rw [List.map_append, List.map_singleton, HZ.out]; exact HG.out.1, HG.out.2, hlb⟩)
      go_roundw
      case rel => exact ⟨k', j + 1, q2, d2, _, _, _, rfl, by go_num, Lib.hid ⟨_, HLN.out⟩⟩
      case measure => have := HKJ.out; simp [intOf]; omega
    · have hE : k = 0 ∨ d = true := by
        by_cases h0 : k = 0
        · exact .inl h0
        · cases d
          · exact absurd ⟨by omega, rfl⟩ hgo
          · exact .inr rfl
      obtain ⟨hp, hs⟩ := ends hE hL.go hL.st
      have HE : RLO bm va c bs w (P, S2) (.returned (.slice xa xl xc)) wr := by
        subst hs
        exact ⟨xa, xl, xc, xs, rfl, hp, hL.x, hL.m, hL.o⟩
      have HEE := Lib.hid HE
      have HKJ := Lib.hid hkj
      clear hL HL HP hgo hp hs HE hxl
      rcases hE with rfl | rfl
      · have dk : decide (j < N) = false := decide_eq_false (by omega)
        clear hkj
        go_wp2
        go_ret
        exact HEE.out
      · by_cases hk0 : 0 < k
        · have dk : decide (j < N) = true := decide_eq_true (by omega)
          clear hkj
          go_wp2
          go_ret
          exact HEE.out
        · have dk : decide (j < N) = false := decide_eq_false (by omega)
          clear hkj
          go_wp2
          go_ret
          exact HEE.out
theorem rdelta_any (bm : Nat) (va : Option Addr) (c : Nat) (bs : List Int) (p : Nat) (b : Bool) (w : World) (h : Rd bm va c bs p b w) :
    Calls Tryz.prog 28 #[.pointer (some ⟨bm, 0, none⟩)] w (RLO bm va c bs w (qList bs (qOp bs) p b)) := by
  have hb := kbelow_one w (.cells #[.pointer (some ⟨bm, 0, none⟩)] 74)
  have hcb := cb_new w 74 #[.pointer (some ⟨bm, 0, none⟩)]
  have hlt := h.cell.lt
  have HL := Lib.hid (listO_any bm w.heap.size va c bs p b _ (h.below hb) (hcb.cell 0) (by simp) (by omega))
  have HB := Lib.hid hb
  have c0 := hcb.cell 0
  clear h hb hcb hlt
  go_enter Tryz.func28, Tryz.ntmps28
  go_wp2_with (go_at_call 62; go_loud (refine HL.out.mono ?_; rintro e w1 ⟨a, n, d, zs, rfl, hz, hown, hm, ho⟩; have HZ := Lib.hid hz; have HOW := Lib.hid (hown.mono (fun g hg => Nat.le_trans HB.out.size hg)); have HM := Lib.hid hm; have HO := Lib.hid ((Off.of_below (S := fun k => k = bm) HB.out).seq ho); clear hown hm ho hz))
  go_ret
  exact ⟨a, n, d, zs, rfl, HZ.out, HOW.out, HM.out, HO.out⟩
end Go.Proofs.YtohgopibimgjfaaGreat

/- Q10: the program's writer: natural, bytes, text -/
namespace Go.Proofs.YtohgopibimgjfaaGreat
open Go.RowKit
set_option linter.unusedVariables false
set_option maxRecDepth 100000

/-- A writer: its bytes, in a row of its own, in one of F's blocks. -/
structure Wr (F : Nat → Prop) (bw : Nat) (a : Option Addr) (c : Nat) (xs : List Int) (W : World) : Prop where
  cell : Cb bw 67 #[.slice a xs.length c] W
  own : W.ownsRow 0 5 1 (.slice a xs.length c) xs.length (xs.map (Value.int .u8))
  f : ∀ k, (Value.slice a xs.length c).ownBlock = some k → F k
  nb : ¬ F bw
/-- Behind a call that writes. -/
def WrP (F : Nat → Prop) (bw : Nat) (xs : List Int) (w : World) (e : Ending) (w' : World) : Prop := e = .returned (.tuple #[]) ∧ (∃ a c, Wr F bw a c xs w') ∧ Off (fun k => k = bw ∨ F k) w w'
section
variable {F G : Nat → Prop} {bw c g cap m : Nat} {a : Option Addr} {xs ys : List Int} {w w1 w3 W W2 : World} {S : Nat → Prop}
theorem Wr.below (h : Wr F bw a c xs W) (hb : Below W.heap.size W W2) : Wr F bw a c xs W2 := ⟨h.cell.below hb, owns_below h.own hb, h.f, h.nb⟩
theorem Wr.mono (h : Wr F bw a c xs W) (hf : ∀ k, F k → k < W.heap.size → G k) (hn : ¬ G bw) : Wr G bw a c xs W := ⟨h.cell, h.own, fun k hk => hf k (h.f k hk) (own_lt7 h.own hk), hn⟩
theorem Wr.c0 (h : Wr F bw a c xs W) : W.cell? ⟨bw, 0, none⟩ = some (.slice a xs.length c) := h.cell.cell 0
theorem Wr.grow (h : Wr F bw a c xs W) (hg : W.grownBy W2 (Value.slice a xs.length c).ownBlock) : Cb bw 67 #[.slice a xs.length c] W2 :=
  h.cell.off (Off.of_grown (S := fun k => (Value.slice a xs.length c).ownBlock = some k) hg (fun k hk => hk)) (fun hh => h.nb (h.f _ hh))
theorem Wr.push (h : Wr F bw a c xs w) (hF : ∀ k, w.heap.size ≤ k → F k) (hb : Below w.heap.size w w1) (ho : w3.ownsRow 0 5 1 (.slice (some ⟨g, 0, none⟩) (xs.length + m) cap) (xs.length + m) (xs.map (Value.int .u8) ++ ys.map (Value.int .u8))) (hm : ys.length = m) (hg : w1.grownBy w3 (Value.slice a xs.length c).ownBlock) (hl : (Value.slice a xs.length c).ownBlock = some g ∨ g = w1.heap.size) :
    WrP F bw (xs ++ ys) w (.returned (.tuple #[])) (w3.setCell ⟨bw, 0, none⟩ (.slice (some ⟨g, 0, none⟩) (xs.length + m) cap)) := by
  subst hm
  have h1 := h.below hb
  have hc := h1.grow hg
  have hf := mo_off (bm := bw) (W := w3) (.slice (some ⟨g, 0, none⟩) (xs.length + ys.length) cap) 0
  have hsz := hb.size
  have hG : F g := by
    rcases hl with q | q
    · exact h.f _ q
    · exact hF _ (by omega)
  have e : (xs ++ ys).length = xs.length + ys.length := List.length_append
  have hown : (w3.setCell ⟨bw, 0, none⟩ (.slice (some ⟨g, 0, none⟩) (xs.length + ys.length) cap)).ownsRow 0 5 1 (.slice (some ⟨g, 0, none⟩) (xs.length + ys.length) cap) (xs.length + ys.length) (xs.map (Value.int .u8) ++ ys.map (Value.int .u8)) := by
    refine owns_kept ho (fun k hk => hf.block k (own_lt7 ho hk) (fun hh => ?_))
    have e2 : g = k := by simpa [Value.ownBlock] using hk
    subst e2
    subst hh
    exact h.nb hG
  refine ⟨rfl, ⟨some ⟨g, 0, none⟩, cap, ?_, ?_, fun k hk => ?_, h.nb⟩, ?_⟩
  · have := heap_set (o := 0) (.slice (some ⟨g, 0, none⟩) (xs.length + ys.length) cap) hc
    rw [e]
    exact this
  · rw [e, List.map_append]
    exact hown
  · have e2 : g = k := by simpa [Value.ownBlock] using hk
    rw [← e2]; exact hG
  · have o1 : Off (fun k => k = bw ∨ F k) w w1 := Off.of_below hb
    have o2 : Off (fun k => k = bw ∨ F k) w1 w3 := Off.of_grown hg (fun k hk => .inr (h.f k hk))
    have o3 : Off (fun k => k = bw ∨ F k) w3 (w3.setCell ⟨bw, 0, none⟩ (.slice (some ⟨g, 0, none⟩) (xs.length + ys.length) cap)) := off_more (Off.refl _ _) hf (fun x hx => .inl (.inl hx))
    exact (o1.seq o2).seq o3
theorem made_at {e : Ending} (h : WMade ys w e w1) (h0 : 0 < ys.length) : ∃ g c, e = .returned (.slice (some ⟨g, 0, none⟩) ys.length c) ∧ (∀ (j : Nat) u, (ys.map (Value.int .u8))[j]? = some u → w1.cell? ((⟨g, 0, none⟩ : Addr).add j) = some u) ∧ Below w.heap.size w w1 := by
  obtain ⟨v, rfl, ho, hb⟩ := h
  obtain ⟨a, c, rfl, ha, -⟩ := own_shape ho
  have hi := (Ints.of_owns ho).1
  obtain ⟨b, off, ha2, -, -, -, hcz⟩ := hi.opened h0
  rcases ha with rfl | ⟨g, rfl⟩
  · cases ha2
  · injection ha2 with e1
    injection e1 with e1 e2
    subst e1 e2
    refine ⟨g, c, rfl, fun i u hu => ?_, hb⟩
    have hil : i < ys.length := by have := (List.getElem?_eq_some_iff.1 hu).1; simpa using this
    have hc := hcz i hil
    rw [Go.WideShapes.add_plain, hc, ← hu]
    simp [List.getD, hil]
end
set_option maxHeartbeats 4000000 in
theorem wnat_any (F : Nat → Prop) (bw : Nat) (a : Option Addr) (c : Nat) (xs : List Int) (n : Nat) (w : World) (h : Wr F bw a c xs w) (hF : ∀ k, w.heap.size ≤ k → F k) (hn : Fits n) (hl : xs.length ≤ 1000000000) :
    Calls Tryz.prog 49 #[.pointer (some ⟨bw, 0, none⟩), .int .u64 n] w (WrP F bw (xs ++ form n) w) := by
  obtain ⟨i0, hi, hz0, hz1, hz2⟩ := info_parts info5
  have hbd : Below w.heap.size w w.drew := (Below.refl _ _).drew
  have HCL := Lib.hid (appendUint_any (.slice none 0 0) [] n w.drew (ints_nil _ _) (by simp) hn)
  have HW := Lib.hid h
  have HFF := Lib.hid hF
  have HBD := Lib.hid hbd
  have hc0 := (h.below hbd).c0
  have hpos : 0 < (form n).length := by (try simp only [List.length_append]); have := form_pos n; omega
  have hfl : (form n).length ≤ 1000000000 := by (try simp only [List.length_append]); have := form_ten n hn; omega
  simp only [List.nil_append] at HCL
  obtain ⟨ys, hys⟩ : ∃ y, form n = y := ⟨_, rfl⟩
  rw [hys] at HCL hpos hfl ⊢
  clear h hF hbd hys 
  go_enter Tryz.func49, Tryz.ntmps49
  go_region_law (first
    | (refine step_call (by rfl) (f := 83) (args := #[.slice none 0 0, .int .u64 n]) (by go_simp) ?_; refine HCL.out.mono ?_; rintro e w1 hmade; obtain ⟨g, gc, rfl, hcz, hb⟩ := made_at hmade hpos; have HB1 := Lib.hid (below_add HBD.out hb HBD.out.size); have hc1 := (HW.out.below HB1.out).c0; have HCZ := Lib.hid hcz; clear hb hcz hmade; refine ⟨_, rfl, ?_⟩)
    | (refine step_append_lies _ (by rfl) (.tmp 8) (.tmp 10) 31 (by rfl) 0 5 i0 (.int .u8 0) 1 1 Tryz.underlying31 hi hz0 hz1 hz2 (by rfl) (by decide) (.slice a xs.length c) xs.length (xs.map (Value.int .u8)) (by rfl) (owns_below HW.out.own HB1.out) ⟨g, 0, none⟩ ys.length gc (ys.map (Value.int .u8)) (by rfl) (by simp) HCZ.out (ints_one _ _) hpos (by unfold maxLen; omega) (by omega) (Nat.zero_le _) _ rfl ?_; intro g3 cap w3 hown3 hgrow3 hat3 hlt3; have HC3 := Lib.hid ((HW.out.below HB1.out).grow hgrow3); have hf3 := HC3.out.frozen 0; have hc3 := HC3.out.cell 0))
  all_goals
    go_end0
    exact HW.out.push HFF.out HB1.out hown3 rfl hgrow3 hat3
set_option maxHeartbeats 4000000 in
theorem wbytes_any (F : Nat → Prop) (bw : Nat) (a : Option Addr) (c : Nat) (xs : List Int) (v : Value) (x : List Int) (w : World) (h : Wr F bw a c xs w) (hF : ∀ k, w.heap.size ≤ k → F k) (hv : Ints .u8 w v x) (hx : x.length ≤ 45000000) (hl : xs.length ≤ 1000000000) :
    Calls Tryz.prog 88 #[.pointer (some ⟨bw, 0, none⟩), v] w (WrP F bw (xs ++ (form x.length ++ x)) w) := by
  obtain ⟨i0, hi, hz0, hz1, hz2⟩ := info_parts info5
  have hbd : Below w.heap.size w w.drew := (Below.refl _ _).drew
  have HCL := Lib.hid (appendBytes_any (.slice none 0 0) v [] x w.drew (ints_nil _ _) (hv.below hbd) (by simp) hx)
  have HW := Lib.hid h
  have HFF := Lib.hid hF
  have HBD := Lib.hid hbd
  have hc0 := (h.below hbd).c0
  have hpos : 0 < ((form x.length ++ x)).length := by (try simp only [List.length_append]); have := form_pos x.length; omega
  have hfl : ((form x.length ++ x)).length ≤ 1000000000 := by (try simp only [List.length_append]); have := form_ten x.length (by omega); omega
  simp only [List.nil_append] at HCL
  obtain ⟨ys, hys⟩ : ∃ y, (form x.length ++ x) = y := ⟨_, rfl⟩
  rw [hys] at HCL hpos hfl ⊢
  clear h hF hbd hys hv hx
  go_enter Tryz.func88, Tryz.ntmps88
  go_region_law (first
    | (refine step_call (by rfl) (f := 125) (args := #[.slice none 0 0, v]) (by go_simp) ?_; refine HCL.out.mono ?_; rintro e w1 hmade; obtain ⟨g, gc, rfl, hcz, hb⟩ := made_at hmade hpos; have HB1 := Lib.hid (below_add HBD.out hb HBD.out.size); have hc1 := (HW.out.below HB1.out).c0; have HCZ := Lib.hid hcz; clear hb hcz hmade; refine ⟨_, rfl, ?_⟩)
    | (refine step_append_lies _ (by rfl) (.tmp 8) (.tmp 10) 31 (by rfl) 0 5 i0 (.int .u8 0) 1 1 Tryz.underlying31 hi hz0 hz1 hz2 (by rfl) (by decide) (.slice a xs.length c) xs.length (xs.map (Value.int .u8)) (by rfl) (owns_below HW.out.own HB1.out) ⟨g, 0, none⟩ ys.length gc (ys.map (Value.int .u8)) (by rfl) (by simp) HCZ.out (ints_one _ _) hpos (by unfold maxLen; omega) (by omega) (Nat.zero_le _) _ rfl ?_; intro g3 cap w3 hown3 hgrow3 hat3 hlt3; have HC3 := Lib.hid ((HW.out.below HB1.out).grow hgrow3); have hf3 := HC3.out.frozen 0; have hc3 := HC3.out.cell 0))
  all_goals
    go_end0
    exact HW.out.push HFF.out HB1.out hown3 rfl hgrow3 hat3
end Go.Proofs.YtohgopibimgjfaaGreat

/- Q11: the program's Decode -/
namespace Go.Proofs.YtohgopibimgjfaaGreat
open Go.RowKit
set_option linter.unusedVariables false
set_option maxRecDepth 100000

theorem rd_start {w : World} {va : Option Addr} {c : Nat} {bs : List Int} (h : Ints .u8 w (.slice va bs.length c) bs) (ho : Okb bs) (hl : bs.length ≤ 50000000) : Rd w.heap.size va c bs 0 false (w.alloc (.cells (moC va bs.length c 0 false) 76)) := by
  have hb := kbelow_one w (.cells (moC va bs.length c 0 false) 76)
  exact ⟨cb_new _ _ _, h.below hb, ints_na h _ (fun k hk => by omega), ho, hl, Nat.zero_le _⟩
theorem list_len {α : Type} {bs : List Int} (ho : Okb bs) {f : Nat → Bool → α × Nat × Bool} (hf : ∀ p b, p ≤ bs.length → (f p b).2.1 ≤ bs.length) {p : Nat} (hp : p ≤ bs.length) (b : Bool) : (qList bs f p b).1.length ≤ bs.length :=
  Nat.le_trans (many_all (P := fun _ => True) (fun p b hp => ⟨hf p b hp, trivial⟩) _ _ _ (sim_nat ho bs.length hp b).at_).1 (nat_le bs bs.length p b)
/-- An op's lists are no longer than the bytes. -/
theorem qop_sm {bs : List Int} (ho : Okb bs) {p : Nat} (hp : p ≤ bs.length) (b : Bool) {z : Oz} (hz : z.o = (qOp bs p b).1) : z.rs.length ≤ bs.length ∧ z.st.length ≤ bs.length ∧ z.pt.length ≤ bs.length := by
  have h1 := (sim_nat ho 255 hp b).at_
  have e : z.o = (qOpK bs (qNat bs 255 p b).1 (qNat bs 255 p b).2.1 (qNat bs 255 p b).2.2).1 := hz
  generalize (qNat bs 255 p b).1 = k at *
  generalize (qNat bs 255 p b).2.1 = q at *
  generalize (qNat bs 255 p b).2.2 = d at *
  clear hz
  have er : z.o.rs = z.rs := rfl
  have es : z.o.st = z.st := rfl
  have ep : z.o.pt = z.pt := rfl
  have hq1 := (sim_nat ho 9223372036854775807 h1 d).at_
  unfold qOpK at e
  by_cases k1 : k = 1
  · rw [if_pos k1] at e
    have e2 : z.o = opR ((qKey bs q d).1, (qList bs (qChg bs) (qKey bs q d).2.1 (qKey bs q d).2.2).1) := e
    unfold opR at e2
    rw [e2] at er es ep
    simp only at er es ep
    rw [← er, ← es, ← ep]
    exact ⟨Nat.zero_le _, Nat.zero_le _, list_len ho (fun p b hp => (sim_chg ho hp b).at_) hq1 _⟩
  rw [if_neg k1] at e
  by_cases k2 : k = 2
  · rw [if_pos k2] at e
    have e2 : z.o = opI ((qRun bs q d).1, (qList bs (qAtt bs) (qRun bs q d).2.1 (qRun bs q d).2.2).1) := e
    unfold opI at e2
    rw [e2] at er es ep
    simp only at er es ep
    rw [← er, ← es, ← ep]
    exact ⟨(qrun_all ho d).1, list_len ho (fun p b hp => (sim_att ho hp b).at_) (sim_run ho h1 d).at_ _, Nat.zero_le _⟩
  rw [if_neg k2] at e
  by_cases k3 : k = 3
  · rw [if_pos k3] at e
    have e2 : z.o = opD (qKey bs q d).1 := e
    unfold opD at e2
    rw [e2] at er es ep
    simp only at er es ep
    rw [← er, ← es, ← ep]
    exact ⟨Nat.zero_le _, Nat.zero_le _, Nat.zero_le _⟩
  · rw [if_neg k3] at e
    rw [e] at er es ep
    simp only at er es ep
    rw [← er, ← es, ← ep]
    exact ⟨Nat.zero_le _, Nat.zero_le _, Nat.zero_le _⟩
theorem qops_sm {bs : List Int} (ho : Okb bs) (hl : bs.length ≤ 50000000) {zs : List Oz} (h : zs.map Oz.o = (qOps bs).1) : ∀ z ∈ zs, Sm z := fun z hz => by
  have hx := many_all (f := qOp bs) (P := fun o => ∀ z : Oz, z.o = o → z.rs.length ≤ bs.length ∧ z.st.length ≤ bs.length ∧ z.pt.length ≤ bs.length) (fun p b hp => ⟨(sim_op ho hp b).at_, fun z hz => qop_sm ho hp b hz⟩) (qNat bs bs.length 0 false).1 (qNat bs bs.length 0 false).2.1 (qNat bs bs.length 0 false).2.2 (sim_nat ho bs.length (Nat.zero_le _) false).at_
  have hm : z.o ∈ zs.map Oz.o := List.mem_map_of_mem hz
  rw [h] at hm
  obtain ⟨h1, h2, h3⟩ := hx.2 z.o hm z rfl
  exact ⟨by omega, by omega, by omega⟩
/-- What Is tells of what was read, if May has nothing against it. -/
theorem is_read {bs : List Int} (ho : Okb bs) (hl : bs.length ≤ 50000000) {ks : List Key} {zs : List Oz} (h : zs.map Oz.o = (qOps bs).1) (hm : ¬ mayX ks (qOps bs).1 = 3) : normal (qOps bs).1 ↔ formO (qOps bs).1 = (qOps bs).1 := by
  obtain ⟨h1, -⟩ := qops_w ho hl h
  have hs := qops_sm ho hl h
  have h2 := may_same ks zs hs (by omega)
  rw [h] at h2
  have ht := (rm_tame (ks := ks) (zs := zs) (by omega) (by rw [h2]; exact hm)).tm
  rw [h] at ht
  exact normal_iff ht
theorem dec_bad2 {ks : List Key} {bs : List Int} (ho : Okb bs) (h : (qOps bs).2.2 = true ∨ (qOps bs).2.1 ≠ bs.length) : decX 1073741824 ks bs = ([], 3) := by
  rw [decX_P, allP_ops ho, if_pos h]
theorem dec_all2 {ks : List Key} {bs : List Int} (ho : Okb bs) (h1 : (qOps bs).2.2 = false) (h2 : (qOps bs).2.1 = bs.length) : decX 1073741824 ks bs = if mayX ks (qOps bs).1 = 3 ∨ ¬ formO (qOps bs).1 = (qOps bs).1 then ([], 3) else if mayX ks (qOps bs).1 = 4 then ([], 4) else ((qOps bs).1, 0) := by
  rw [decX_P, allP_ops ho, if_neg (by simp [h1, h2])]
theorem dec_nil {w w' : World} {ks : List Key} {bs : List Int} {E : Int} (hd : decX 1073741824 ks bs = ([], E)) (hb : Below w.heap.size w w') : DecP w ks bs (.returned (.tuple #[.slice none 0 0, .int .i64 E])) w' := by
  unfold DecP
  rw [hd]
  exact ⟨_, [], rfl, rfl, Oown.nil _ _, hb⟩
theorem mayX_ways2 (ks : List Key) (xs : List Opn) : mayX ks xs = 0 ∨ mayX ks xs = 3 ∨ mayX ks xs = 4 := by
  have := mayX_ways ks xs
  omega
set_option maxHeartbeats 8000000 in
theorem pdec_all : PDec := by
  intro sv ks va c bs w hs hk hv ho hl
  have hb0 := kbelow_one w (.cells (moC va bs.length c 0 false) 76)
  have HD := Lib.hid (rdelta_any w.heap.size va c bs 0 false _ (rd_start hv ho hl))
  have HB0 := Lib.hid hb0
  have HS := Lib.hid hs
  have hq : qList bs (qOp bs) 0 false = qOps bs := rfl
  rw [hq] at HD
  have hat := (sim_ops ho).at_
  have HX0 := Lib.hid (fun (zs : List Oz) (h : zs.map Oz.o = (qOps bs).1) => (qops_w ho hl h).2)
  have HIR := Lib.hid (fun (zs : List Oz) (h : zs.map Oz.o = (qOps bs).1) (hm : ¬ mayX ks (qOps bs).1 = 3) => is_read ho hl h hm)
  have HDB := Lib.hid (fun h => dec_bad2 (ks := ks) ho h)
  have HDA := Lib.hid (fun h1 h2 => dec_all2 (ks := ks) ho h1 h2)
  clear hs hk hv ho hl hb0 hq
  generalize qOps bs = r at *
  obtain ⟨X, p1, b1⟩ := r
  unfold RLO at HD
  simp only at HD hat HX0 HIR HDB HDA
  cases b1 with
  | true =>
    have HE := Lib.hid (HDB.out (.inl rfl))
    clear HDA HDB HIR HX0
    go_enter Tryz.func15, Tryz.ntmps15
    go_wp2_with (go_at_call 28; go_loud (refine HD.out.mono ?_; rintro e w1 ⟨xa, xn, xc, zs, rfl, hz, hown, hm, ho⟩; have HZ := Lib.hid hz; have HX := Lib.hid (hown.mono (fun g hg => Nat.le_trans HB0.out.size hg)); have HB1 := Lib.hid (HB0.out.trans (ho.below (fun k hk => by omega) HB0.out.size)); obtain ⟨c0, c1, c2, c3, c4⟩ := hm.cells; clear hz hown hm ho))
    go_ret2
    exact dec_nil HE.out HB1.out
  | false =>
    by_cases hp : p1 = bs.length
    · have HE := Lib.hid (HDA.out rfl hp)
      have d1 : decide (p1 < bs.length) = false := decide_eq_false (by omega)
      have HIS := Lib.hid (fun (v : Value) (zs : List Oz) (W : World) (hx : Orow W v zs) => is_any v zs W hx)
      have HMY := Lib.hid (fun (v : Value) (zs : List Oz) (W : World) (hs : Sch W sv ks) (hx : Orow W v zs) (hz : zs.map Oz.o = X) => (by have := pmay_any sv v ks zs W hs hx (HX0.out zs hz); rw [hz] at this; exact this : Calls Tryz.prog 20 #[sv, v] W fun e w' => e = .returned (.int .i64 (mayX ks X)) ∧ Below W.heap.size W w'))
      by_cases hN : normal X
      · have HIS2 := Lib.hid (fun (v : Value) (zs : List Oz) (W : World) (hx : Orow W v zs) (hz : zs.map Oz.o = X) => ((HIS.out v zs W hx).mono fun e w' h => (by obtain ⟨⟨bb, h1, h2⟩, hb⟩ := h; rw [hz] at h2; rw [h1, h2.2 hN]; exact ⟨rfl, hb⟩ : e = .returned (.bool true) ∧ Below W.heap.size W w')))
        rcases mayX_ways2 ks X with hm | hm | hm
        · rw [hm] at HMY HE
          have HNF := Lib.hid (fun (zs : List Oz) (hz : zs.map Oz.o = X) => (HIR.out zs hz (by omega)).1 hN)
          clear HDA HDB HIR HX0 HIS hN hp
          go_enter Tryz.func15, Tryz.ntmps15
          go_wp2_with (first
            | (go_at_call 28; go_loud (refine HD.out.mono ?_; rintro e w1 ⟨xa, xn, xc, zs, rfl, hz, hown, hm, ho⟩; have HZ := Lib.hid hz; have HX := Lib.hid (hown.mono (fun g hg => Nat.le_trans HB0.out.size hg)); have HB1 := Lib.hid (HB0.out.trans (ho.below (fun k hk => by omega) HB0.out.size)); obtain ⟨c0, c1, c2, c3, c4⟩ := hm.cells; clear hz hown hm ho))
            | (go_at_call 17; go_loud (refine (HIS2.out _ zs _ HX.out.orow HZ.out).mono ?_; rintro e w2 ⟨rfl, hb⟩; have HX2 := Lib.hid (HX.out.below hb); have HB2 := Lib.hid (below_add HB1.out hb HB1.out.size); clear hb))
            | (go_at_call 20; go_loud (refine (HMY.out _ zs _ (HS.out.below HB2.out (Nat.le_refl _)) HX2.out.orow HZ.out).mono ?_; rintro e w3 ⟨rfl, hb⟩; have HX3 := Lib.hid (HX2.out.below hb); have HB3 := Lib.hid (below_add HB2.out hb HB2.out.size); clear hb)))
          go_ret2
          have hf := HNF.out zs HZ.out
          have he := HE.out
          rw [if_neg (by rintro (h | h); exact absurd h (by decide); exact h hf), if_neg (by decide)] at he
          unfold DecP
          rw [he]
          exact ⟨_, zs, rfl, HZ.out, HX3.out, HB3.out⟩
        · rw [hm] at HMY HE
          have HE2 := Lib.hid (show decX 1073741824 ks bs = ([], 3) by rw [HE.out, if_pos (.inl rfl)])
          clear HDA HDB HIR HX0 HIS hN hp HE
          go_enter Tryz.func15, Tryz.ntmps15
          go_wp2_with (first
            | (go_at_call 28; go_loud (refine HD.out.mono ?_; rintro e w1 ⟨xa, xn, xc, zs, rfl, hz, hown, hm, ho⟩; have HZ := Lib.hid hz; have HX := Lib.hid (hown.mono (fun g hg => Nat.le_trans HB0.out.size hg)); have HB1 := Lib.hid (HB0.out.trans (ho.below (fun k hk => by omega) HB0.out.size)); obtain ⟨c0, c1, c2, c3, c4⟩ := hm.cells; clear hz hown hm ho))
            | (go_at_call 17; go_loud (refine (HIS2.out _ zs _ HX.out.orow HZ.out).mono ?_; rintro e w2 ⟨rfl, hb⟩; have HX2 := Lib.hid (HX.out.below hb); have HB2 := Lib.hid (below_add HB1.out hb HB1.out.size); clear hb))
            | (go_at_call 20; go_loud (refine (HMY.out _ zs _ (HS.out.below HB2.out (Nat.le_refl _)) HX2.out.orow HZ.out).mono ?_; rintro e w3 ⟨rfl, hb⟩; have HX3 := Lib.hid (HX2.out.below hb); have HB3 := Lib.hid (below_add HB2.out hb HB2.out.size); clear hb)))
          go_ret2
          exact dec_nil HE2.out HB3.out
        · have HNF := Lib.hid (fun (zs : List Oz) (hz : zs.map Oz.o = X) => (HIR.out zs hz (by omega)).1 hN)
          rw [hm] at HMY HE
          clear HDA HDB HIR HX0 HIS hN hp
          go_enter Tryz.func15, Tryz.ntmps15
          go_wp2_with (first
            | (go_at_call 28; go_loud (refine HD.out.mono ?_; rintro e w1 ⟨xa, xn, xc, zs, rfl, hz, hown, hm, ho⟩; have HZ := Lib.hid hz; have HX := Lib.hid (hown.mono (fun g hg => Nat.le_trans HB0.out.size hg)); have HB1 := Lib.hid (HB0.out.trans (ho.below (fun k hk => by omega) HB0.out.size)); obtain ⟨c0, c1, c2, c3, c4⟩ := hm.cells; clear hz hown hm ho))
            | (go_at_call 17; go_loud (refine (HIS2.out _ zs _ HX.out.orow HZ.out).mono ?_; rintro e w2 ⟨rfl, hb⟩; have HX2 := Lib.hid (HX.out.below hb); have HB2 := Lib.hid (below_add HB1.out hb HB1.out.size); clear hb))
            | (go_at_call 20; go_loud (refine (HMY.out _ zs _ (HS.out.below HB2.out (Nat.le_refl _)) HX2.out.orow HZ.out).mono ?_; rintro e w3 ⟨rfl, hb⟩; have HX3 := Lib.hid (HX2.out.below hb); have HB3 := Lib.hid (below_add HB2.out hb HB2.out.size); clear hb)))
          go_ret2
          have hf := HNF.out zs HZ.out
          have he := HE.out
          rw [if_neg (by rintro (h | h); exact absurd h (by decide); exact h hf), if_pos (by trivial)] at he
          exact dec_nil he HB3.out
      · have HIS2 := Lib.hid (fun (v : Value) (zs : List Oz) (W : World) (hx : Orow W v zs) (hz : zs.map Oz.o = X) => ((HIS.out v zs W hx).mono fun e w' h => (by
          obtain ⟨⟨bb, h1, h2⟩, hb⟩ := h
          rw [hz] at h2
          cases bb with
          | true => exact absurd (h2.1 rfl) hN
          | false => exact ⟨h1, hb⟩ : e = .returned (.bool false) ∧ Below W.heap.size W w')))
        have HE2 := Lib.hid (fun (zs : List Oz) (hz : zs.map Oz.o = X) => (show decX 1073741824 ks bs = ([], 3) by
          rw [HE.out]
          by_cases hm : mayX ks X = 3
          · rw [if_pos (.inl hm)]
          · rw [if_pos (.inr (fun hf => hN ((HIR.out zs hz hm).2 hf)))]))
        clear HDA HDB HIR HX0 HIS hN hp HE HMY
        go_enter Tryz.func15, Tryz.ntmps15
        go_wp2_with (first
          | (go_at_call 28; go_loud (refine HD.out.mono ?_; rintro e w1 ⟨xa, xn, xc, zs, rfl, hz, hown, hm, ho⟩; have HZ := Lib.hid hz; have HX := Lib.hid (hown.mono (fun g hg => Nat.le_trans HB0.out.size hg)); have HB1 := Lib.hid (HB0.out.trans (ho.below (fun k hk => by omega) HB0.out.size)); obtain ⟨c0, c1, c2, c3, c4⟩ := hm.cells; clear hz hown hm ho))
          | (go_at_call 17; go_loud (refine (HIS2.out _ zs _ HX.out.orow HZ.out).mono ?_; rintro e w2 ⟨rfl, hb⟩; have HX2 := Lib.hid (HX.out.below hb); have HB2 := Lib.hid (below_add HB1.out hb HB1.out.size); clear hb)))
        go_ret2
        exact dec_nil (HE2.out zs HZ.out) HB2.out
    · have HE := Lib.hid (HDB.out (.inr hp))
      have d1 : decide (p1 < bs.length) = true := decide_eq_true (by omega)
      clear HDA HDB HIR HX0 hp
      go_enter Tryz.func15, Tryz.ntmps15
      go_wp2_with (go_at_call 28; go_loud (refine HD.out.mono ?_; rintro e w1 ⟨xa, xn, xc, zs, rfl, hz, hown, hm, ho⟩; have HZ := Lib.hid hz; have HX := Lib.hid (hown.mono (fun g hg => Nat.le_trans HB0.out.size hg)); have HB1 := Lib.hid (HB0.out.trans (ho.below (fun k hk => by omega) HB0.out.size)); obtain ⟨c0, c1, c2, c3, c4⟩ := hm.cells; clear hz hown hm ho))
      go_ret2
      exact dec_nil HE.out HB1.out
end Go.Proofs.YtohgopibimgjfaaGreat

/- Q12: the program's writer: text, value -/
namespace Go.Proofs.YtohgopibimgjfaaGreat
open Go.RowKit
set_option linter.unusedVariables false
set_option maxRecDepth 100000

@[reducible] def WrE (F : Nat → Prop) (bw : Nat) (xs : List Int) (W : World) : Prop := ∃ a c, Wr F bw a c xs W
section
variable {F G : Nat → Prop} {bw : Nat} {xs ys : List Int} {w w1 W W2 : World} {e : Ending}
theorem WrE.below (h : WrE F bw xs W) (hb : Below W.heap.size W W2) : WrE F bw xs W2 := by
  obtain ⟨a, c, h⟩ := h
  exact ⟨a, c, h.below hb⟩
theorem WrE.mono (h : WrE F bw xs W) (hf : ∀ k, F k → k < W.heap.size → G k) (hn : ¬ G bw) : WrE G bw xs W := by
  obtain ⟨a, c, h⟩ := h
  exact ⟨a, c, h.mono hf hn⟩
theorem WrE.nb (h : WrE F bw xs W) : ¬ F bw := by
  obtain ⟨a, c, h⟩ := h
  exact h.nb
theorem WrE.lt (h : WrE F bw xs W) : bw < W.heap.size := by
  obtain ⟨a, c, h⟩ := h
  exact h.cell.lt
theorem wnat_e {n : Nat} (h : WrE F bw xs w) (hF : ∀ k, w.heap.size ≤ k → F k) (hn : n < 18446744073709551616) (hl : xs.length ≤ 1000000000) : Calls Tryz.prog 49 #[.pointer (some ⟨bw, 0, none⟩), .int .u64 n] w (WrP F bw (xs ++ form n) w) := by
  obtain ⟨a, c, h⟩ := h
  exact wnat_any F bw a c xs n w h hF hn hl
theorem wbytes_e {v : Value} {x : List Int} (h : WrE F bw xs w) (hF : ∀ k, w.heap.size ≤ k → F k) (hv : Ints .u8 w v x) (hx : x.length ≤ 45000000) (hl : xs.length ≤ 1000000000) : Calls Tryz.prog 88 #[.pointer (some ⟨bw, 0, none⟩), v] w (WrP F bw (xs ++ (form x.length ++ x)) w) := by
  obtain ⟨a, c, h⟩ := h
  exact wbytes_any F bw a c xs v x w h hF hv hx hl
theorem WrP.wide (h : WrP G bw xs w e W) (hG : ∀ k, G k → F k) (hn : ¬ F bw) : WrP F bw xs w e W := by
  obtain ⟨h1, ⟨a, c, h2⟩, h3⟩ := h
  exact ⟨h1, ⟨a, c, h2.cell, h2.own, fun k hk => hG k (h2.f k hk), hn⟩, h3.mono (fun k hk => hk.elim .inl (fun q => .inr (hG k q)))⟩
theorem WrP.from (h : WrP F bw xs w1 e W) (ho : Off (fun k => k = bw ∨ F k) w w1) : WrP F bw xs w e W := ⟨h.1, h.2.1, ho.seq h.2.2⟩
end
set_option maxHeartbeats 4000000 in
theorem wtext_any {F : Nat → Prop} {bw : Nat} {xs rs : List Int} {v : Value} {w : World} (h : WrE F bw xs w) (hF : ∀ k, w.heap.size ≤ k → F k) (hv : Ints .i32 w v rs) (hm : allMay rs = true) (hr : rs.length ≤ 1048576) (hl : xs.length ≤ 1000000000) :
    Calls Tryz.prog 51 #[.pointer (some ⟨bw, 0, none⟩), v] w (WrP F bw (xs ++ eRunes rs) w) := by
  have HB := Lib.hid (show Calls Tryz.prog 87 #[v] w fun e w' => ∃ a c, e = .returned (.tuple #[.slice a (utfZ rs).length c, .int .i64 0]) ∧ Ints .u8 w' (.slice a (utfZ rs).length c) (utfZ rs) ∧ Below w.heap.size w w' from (pbytes_any v rs w hv hr).mono fun e w' q => by
    obtain ⟨hb, ⟨-, v2, n, he, ho⟩ | ⟨h1, -⟩⟩ := q
    · obtain ⟨a, c, rfl, -, -⟩ := own_shape ho
      have hn := (Ints.of_owns ho).2
      subst hn
      exact ⟨a, c, he, (Ints.of_owns ho).1, hb⟩
    · rw [hm] at h1; cases h1)
  have HW := Lib.hid h
  have HF := Lib.hid hF
  have hu := utfZ_len rs
  unfold eRunes
  generalize utfZ rs = x at *
  have HC := Lib.hid (fun W (hb : Below w.heap.size w W) v2 (hi : Ints .u8 W v2 x) => wbytes_e (HW.out.below hb) (fun k hk => HF.out k (Nat.le_trans hb.size hk)) hi (by omega) hl)
  obtain ⟨a, cap, rfl⟩ := hv.shape
  clear h hF hv hm
  go_enter Tryz.func51, Tryz.ntmps51
  go_wp2_with (first
    | (go_at_call 87; go_loud (refine HB.out.mono ?_; rintro e w1 ⟨a1, c1, rfl, hi, hb⟩; have HB1 := Lib.hid hb; have HI := Lib.hid hi; clear hi hb))
    | (go_at_call 88; go_loud (refine (HC.out _ HB1.out _ HI.out).mono ?_; rintro e w2 ⟨rfl, hm, ho⟩; have HM := Lib.hid hm; have HO := Lib.hid ho; clear hm ho)))
  go_end0
  exact ⟨rfl, HM.out, (Off.of_below HB1.out).seq HO.out⟩
/-- What is written of a value. -/
def wVal (k : Nat) (n : Int) (f : Nat) (s : ByteArray) : List Int := if k = 1 ∨ k = 2 then form (zig n) else if k = 3 then form f else if k = 4 then form s.size ++ nu s else []
set_option maxHeartbeats 8000000 in
theorem wvalue_n {F : Nat → Prop} {bw : Nat} {xs : List Int} {k f : Nat} {kk n : Int} {s : ByteArray} {w : World} (h : WrE F bw xs w) (hF : ∀ k, w.heap.size ≤ k → F k) (hkk : kk = k) (hk : k ≤ 4) (hn : -9223372036854775808 ≤ n ∧ n ≤ 9223372036854775807) (hf : f < 18446744073709551616) (hs : s.size ≤ 1048576) (hl : xs.length ≤ 900000000) :
    Calls Tryz.prog 86 #[.pointer (some ⟨bw, 0, none⟩), val kk n f s] w (WrP F bw (xs ++ (form k ++ wVal k n f s)) w) := by
  obtain ⟨i0, hi, hz0, hz1, hz2⟩ := info_parts info5
  have hnb := h.nb
  have hlt := h.lt
  obtain ⟨g, hg⟩ : ∃ g, w.heap.size = g := ⟨_, rfl⟩
  obtain ⟨W0, hW0⟩ : ∃ x, w.alloc (.cells (vcells kk n f s) 59) = x := ⟨_, rfl⟩
  have hb0 : Below w.heap.size w W0 := hW0 ▸ kbelow_one w _
  have hsz : W0.heap.size = g + 1 := by rw [← hW0, ← hg]; simp
  have hA : Cb g 59 (vcells kk n f s) W0 := by rw [← hW0, ← hg]; exact cb_new _ _ _
  obtain ⟨G, hG⟩ : ∃ G : Nat → Prop, G = fun k => F k ∧ k ≠ g := ⟨_, rfl⟩
  have hG1 : ∀ W, Off (fun k => k = bw ∨ G k) W0 W → ∀ k, W.heap.size ≤ k → G k := fun W ho k hk => by
    have := ho.size
    rw [hG]
    exact ⟨hF k (by omega), by omega⟩
  have hGb : ¬ G bw := by rw [hG]; exact fun q => hnb q.1
  have hGg : ¬ G g := by rw [hG]; exact fun q => q.2 rfl
  have hW : WrE G bw xs W0 := (h.mono (G := G) (fun k hk hl => by rw [hG]; exact ⟨hk, by omega⟩) hGb).below hb0
  have hgb : g ≠ bw := by omega
  have hk10 := form_ten k (show k < 18446744073709551616 by omega)
  have HCB := Lib.hid (fun W (ho : Off (fun k => k = bw ∨ G k) W0 W) => (hA.off ho (fun q => q.elim (fun q => hgb q) hGg) : Cb g 59 (vcells kk n f s) W))
  have HEND := Lib.hid (fun e W (q : WrP G bw (xs ++ (form k ++ wVal k n f s)) W0 e W) => (q.wide (F := F) (fun k hk => by rw [hG] at hk; exact hk.1) hnb).from (Off.of_below hb0))
  have HGS := Lib.hid hG1
  have HN := Lib.hid (show Calls Tryz.prog 49 #[.pointer (some ⟨bw, 0, none⟩), .int .u64 kk] W0 (WrP G bw (xs ++ form k) W0) from hkk ▸ wnat_e hW (hG1 W0 (Off.refl _ _)) (show k < 18446744073709551616 by omega) (by omega))
  obtain ⟨y0, y1, y2, y3⟩ := vcell hA
  clear h hF hnb hlt hb0 hsz hA hG1 hGb hGg hW hgb hG
  by_cases k1 : k = 1
  · obtain rfl : kk = 1 := by omega
    subst k1
    clear hkk hk
    have hwv : wVal 1 n f s = form (zig n) := rfl
    go_enter Tryz.func86, Tryz.ntmps86
    go_upto_region 7 with (go_at_call 49; go_loud (refine HN.out.mono ?_; rintro e w1 ⟨rfl, hm, ho⟩; have HM1 := Lib.hid hm; have HO1 := Lib.hid ho; clear y0 y1 y2 y3; obtain ⟨y0, y1, y2, y3⟩ := vcell (HCB.out _ ho); clear hm ho hW0))
    obtain ⟨a, c, hw1⟩ := HM1.out
    have HW1 := Lib.hid hw1
    have hbd : Below w1.heap.size w1 w1.drew := (Below.refl _ _).drew
    have hc0 := (hw1.below hbd).c0
    have HCL := Lib.hid (appendInt_any (.slice none 0 0) [] n w1.drew (ints_nil _ _) (by simp) hn.1 hn.2)
    simp only [List.nil_append] at HCL
    have HBD := Lib.hid hbd
    have hpos : 0 < (form (zig n)).length := by have := form_pos (zig n); omega
    have hfl : (form (zig n)).length ≤ 10 := form_ten _ (zig_lt n hn.1 hn.2)
    obtain ⟨y4, y5, y6, y7⟩ := vcell ((HCB.out _ HO1.out).below hbd)
    have HY := Lib.hid (fun W (hb : Below w1.heap.size w1 W) => vcell ((HCB.out _ HO1.out).below hb))
    obtain ⟨ys, hys⟩ : ∃ y, form (zig n) = y := ⟨_, rfl⟩
    rw [hys] at HCL hpos hfl hwv
    obtain ⟨zs, hzs⟩ : ∃ y, xs ++ form 1 = y := ⟨_, rfl⟩
    have hzl : zs.length ≤ 900000010 := by rw [← hzs, List.length_append]; omega
    have HEQ := Lib.hid (show xs ++ (form 1 ++ wVal 1 n f s) = zs ++ ys by rw [hwv, ← hzs, List.append_assoc])
    rw [hzs] at HW1 hc0
    clear hw1 hbd hys hzs hwv
    go_region_law (first
      | (refine step_call (by rfl) (f := 123) (args := #[.slice none 0 0, .int .i64 n]) (by go_simp) ?_; refine HCL.out.mono ?_; rintro e w2 hmade; obtain ⟨g2, gc, rfl, hcz, hb⟩ := made_at hmade hpos; have HB2 := Lib.hid (below_add HBD.out hb HBD.out.size); have hc1 := (HW1.out.below HB2.out).c0; obtain ⟨x0, x1, x2, x3⟩ := HY.out _ HB2.out; have HCZ := Lib.hid hcz; clear hb hcz hmade; refine ⟨_, rfl, ?_⟩)
      | (refine step_append_lies _ (by rfl) (.tmp 23) (.tmp 26) 31 (by rfl) 0 5 i0 (.int .u8 0) 1 1 Tryz.underlying31 hi hz0 hz1 hz2 (by rfl) (by decide) (.slice a zs.length c) zs.length (zs.map (Value.int .u8)) (by rfl) (owns_below HW1.out.own HB2.out) ⟨g2, 0, none⟩ ys.length gc (ys.map (Value.int .u8)) (by rfl) (by simp) HCZ.out (ints_one _ _) hpos (by unfold maxLen; omega) (by omega) (Nat.zero_le _) _ rfl ?_; intro g3 cap w3 hown3 hgrow3 hat3 hlt3; have HC3 := Lib.hid ((HW1.out.below HB2.out).grow hgrow3); have hf3 := HC3.out.frozen 0; have hc3 := HC3.out.cell 0))
    all_goals
      go_wp2
      go_end0
      refine HEND.out _ _ ?_
      rw [HEQ.out]
      exact ((HW1.out.push (HGS.out _ HO1.out) HB2.out hown3 rfl hgrow3 hat3).from HO1.out)
  by_cases k2 : k = 2
  · obtain rfl : kk = 2 := by omega
    subst k2
    clear hkk hk
    have hwv : wVal 2 n f s = form (zig n) := rfl
    go_enter Tryz.func86, Tryz.ntmps86
    go_upto_region 7 with (go_at_call 49; go_loud (refine HN.out.mono ?_; rintro e w1 ⟨rfl, hm, ho⟩; have HM1 := Lib.hid hm; have HO1 := Lib.hid ho; clear y0 y1 y2 y3; obtain ⟨y0, y1, y2, y3⟩ := vcell (HCB.out _ ho); clear hm ho hW0))
    obtain ⟨a, c, hw1⟩ := HM1.out
    have HW1 := Lib.hid hw1
    have hbd : Below w1.heap.size w1 w1.drew := (Below.refl _ _).drew
    have hc0 := (hw1.below hbd).c0
    have HCL := Lib.hid (appendInt_any (.slice none 0 0) [] n w1.drew (ints_nil _ _) (by simp) hn.1 hn.2)
    simp only [List.nil_append] at HCL
    have HBD := Lib.hid hbd
    have hpos : 0 < (form (zig n)).length := by have := form_pos (zig n); omega
    have hfl : (form (zig n)).length ≤ 10 := form_ten _ (zig_lt n hn.1 hn.2)
    obtain ⟨y4, y5, y6, y7⟩ := vcell ((HCB.out _ HO1.out).below hbd)
    have HY := Lib.hid (fun W (hb : Below w1.heap.size w1 W) => vcell ((HCB.out _ HO1.out).below hb))
    obtain ⟨ys, hys⟩ : ∃ y, form (zig n) = y := ⟨_, rfl⟩
    rw [hys] at HCL hpos hfl hwv
    obtain ⟨zs, hzs⟩ : ∃ y, xs ++ form 2 = y := ⟨_, rfl⟩
    have hzl : zs.length ≤ 900000010 := by rw [← hzs, List.length_append]; omega
    have HEQ := Lib.hid (show xs ++ (form 2 ++ wVal 2 n f s) = zs ++ ys by rw [hwv, ← hzs, List.append_assoc])
    rw [hzs] at HW1 hc0
    clear hw1 hbd hys hzs hwv
    go_region_law (first
      | (refine step_call (by rfl) (f := 123) (args := #[.slice none 0 0, .int .i64 n]) (by go_simp) ?_; refine HCL.out.mono ?_; rintro e w2 hmade; obtain ⟨g2, gc, rfl, hcz, hb⟩ := made_at hmade hpos; have HB2 := Lib.hid (below_add HBD.out hb HBD.out.size); have hc1 := (HW1.out.below HB2.out).c0; obtain ⟨x0, x1, x2, x3⟩ := HY.out _ HB2.out; have HCZ := Lib.hid hcz; clear hb hcz hmade; refine ⟨_, rfl, ?_⟩)
      | (refine step_append_lies _ (by rfl) (.tmp 23) (.tmp 26) 31 (by rfl) 0 5 i0 (.int .u8 0) 1 1 Tryz.underlying31 hi hz0 hz1 hz2 (by rfl) (by decide) (.slice a zs.length c) zs.length (zs.map (Value.int .u8)) (by rfl) (owns_below HW1.out.own HB2.out) ⟨g2, 0, none⟩ ys.length gc (ys.map (Value.int .u8)) (by rfl) (by simp) HCZ.out (ints_one _ _) hpos (by unfold maxLen; omega) (by omega) (Nat.zero_le _) _ rfl ?_; intro g3 cap w3 hown3 hgrow3 hat3 hlt3; have HC3 := Lib.hid ((HW1.out.below HB2.out).grow hgrow3); have hf3 := HC3.out.frozen 0; have hc3 := HC3.out.cell 0))
    all_goals
      go_wp2
      go_end0
      refine HEND.out _ _ ?_
      rw [HEQ.out]
      exact ((HW1.out.push (HGS.out _ HO1.out) HB2.out hown3 rfl hgrow3 hat3).from HO1.out)
  by_cases k3 : k = 3
  · obtain rfl : kk = 3 := by omega
    subst k3
    clear hkk hk
    go_enter Tryz.func86, Tryz.ntmps86
    go_upto_region 8 with (go_at_call 49; go_loud (refine HN.out.mono ?_; rintro e w1 ⟨rfl, hm, ho⟩; have HM1 := Lib.hid hm; have HO1 := Lib.hid ho; clear y0 y1 y2 y3; obtain ⟨y0, y1, y2, y3⟩ := vcell (HCB.out _ ho); clear hm ho hW0))
    obtain ⟨zs, hzs⟩ : ∃ y, xs ++ form 3 = y := ⟨_, rfl⟩
    have hzl : zs.length ≤ 900000010 := by rw [← hzs, List.length_append]; omega
    have HEQ := Lib.hid (show xs ++ (form 3 ++ wVal 3 n f s) = zs ++ form f by rw [show wVal 3 n f s = form f from rfl, ← hzs, List.append_assoc])
    rw [hzs] at HM1
    have HN2 := Lib.hid (wnat_e HM1.out (HGS.out _ HO1.out) hf (by omega))
    clear hzs
    go_wp2_with (go_at_call 49; go_loud (refine HN2.out.mono ?_; rintro e w2 hq; have HQ := Lib.hid hq; obtain ⟨rfl, -, -⟩ := hq))
    go_wp2
    go_end0
    refine HEND.out _ _ ?_
    rw [HEQ.out]
    exact HQ.out.from HO1.out
  by_cases k4 : k = 4
  · obtain rfl : kk = 4 := by omega
    subst k4
    clear hkk hk
    go_enter Tryz.func86, Tryz.ntmps86
    go_upto_region 9 with (go_at_call 49; go_loud (refine HN.out.mono ?_; rintro e w1 ⟨rfl, hm, ho⟩; have HM1 := Lib.hid hm; have HO1 := Lib.hid ho; clear y0 y1 y2 y3; obtain ⟨y0, y1, y2, y3⟩ := vcell (HCB.out _ ho); clear hm ho hW0))
    obtain ⟨zs, hzs⟩ : ∃ y, xs ++ form 4 = y := ⟨_, rfl⟩
    have hzl : zs.length ≤ 900000010 := by rw [← hzs, List.length_append]; omega
    have HEQ := Lib.hid (show xs ++ (form 4 ++ wVal 4 n f s) = zs ++ (form s.size ++ nu s) by rw [show wVal 4 n f s = form s.size ++ nu s from rfl, ← hzs, List.append_assoc])
    rw [hzs] at HM1
    obtain ⟨vb, wb, hcv, hib, hbb⟩ := bytes_of s w1 (by omega)
    have HNS := Lib.hid (show Ints .u8 wb vb (nu s) from hib)
    have HOB := Lib.hid (HO1.out.seq (Off.of_below hbb))
    have HN2 := Lib.hid (wbytes_e (WrE.below HM1.out hbb) (HGS.out _ HOB.out) HNS.out (by rw [nu_len]; omega) (by omega))
    rw [nu_len] at HN2
    obtain ⟨ab, cb, rfl⟩ := HNS.out.shape
    clear hzs hib hbb
    go_wp2_with (go_at_call 88; go_loud (refine HN2.out.mono ?_; rintro e w2 hq; have HQ := Lib.hid hq; obtain ⟨rfl, -, -⟩ := hq))
    go_wp2
    go_end0
    refine HEND.out _ _ ?_
    rw [HEQ.out]
    exact HQ.out.from HOB.out
  · obtain rfl : k = 0 := by omega
    obtain rfl : kk = 0 := by omega
    clear hkk hk k1 k2 k3 k4
    have HEQ := Lib.hid (show xs ++ (form 0 ++ wVal 0 n f s) = xs ++ form 0 by rw [show wVal 0 n f s = [] from rfl, List.append_nil])
    go_enter Tryz.func86, Tryz.ntmps86
    go_wp2_with (go_at_call 49; go_loud (refine HN.out.mono ?_; rintro e w1 ⟨rfl, hm, ho⟩; have HM1 := Lib.hid hm; have HO1 := Lib.hid ho; clear y0 y1 y2 y3; obtain ⟨y0, y1, y2, y3⟩ := vcell (HCB.out _ ho); have HQ := Lib.hid (show WrP G bw (xs ++ form 0) W0 (.returned (.tuple #[])) w1 from ⟨rfl, hm, ho⟩); clear hm ho hW0))
    go_wp2
    go_end0
    refine HEND.out _ _ ?_
    rw [HEQ.out]
    exact HQ.out
end Go.Proofs.YtohgopibimgjfaaGreat

/- Q13: the program's writer: sets, patches -/
namespace Go.Proofs.YtohgopibimgjfaaGreat
open Go.RowKit
set_option linter.unusedVariables false
set_option maxRecDepth 100000

/-- A box of the call's own is left out of the writer's blocks. -/
theorem clo_frame {F : Nat → Prop} {bw : Nat} {xs : List Int} {w : World} (h : WrE F bw xs w) (hF : ∀ k, w.heap.size ≤ k → F k) (cs : Array Value) (t : TypeId) :
    ∃ (G : Nat → Prop) (g : Nat) (W0 : World), (w.heap.size = g ∧ w.alloc (.cells cs t) = W0) ∧ WrE G bw xs W0 ∧ (∀ W, Off (fun k => k = bw ∨ G k) W0 W → ∀ k, W.heap.size ≤ k → G k) ∧ (∀ W, Off (fun k => k = bw ∨ G k) W0 W → Cb g t cs W) ∧
      (∀ e W ys, WrP G bw ys W0 e W → WrP F bw ys w e W) ∧ (∀ W, Off (fun k => k = bw ∨ G k) W0 W → Off (fun k => k = bw ∨ F k) w W) ∧ (∀ k, G k → F k) ∧ ¬ G g := by
  have hnb := h.nb
  have hlt := h.lt
  have hb0 := kbelow_one w (.cells cs t)
  have hsz : (w.alloc (.cells cs t)).heap.size = w.heap.size + 1 := by simp
  have hG : ¬ (fun k => F k ∧ k ≠ w.heap.size) bw := fun q => hnb q.1
  refine ⟨fun k => F k ∧ k ≠ w.heap.size, w.heap.size, _, ⟨rfl, rfl⟩, (h.mono (G := fun k => F k ∧ k ≠ w.heap.size) (fun k hk hl => ⟨hk, by omega⟩) hG).below hb0, fun W ho k hk => ?_, fun W ho => ?_, fun e W ys q => ?_, fun W ho => ?_, fun k hk => hk.1, fun q => q.2 rfl⟩
  · have := ho.size
    exact ⟨hF k (by omega), by omega⟩
  · exact (cb_new w t cs).off ho (fun q => q.elim (fun q => by omega) (fun q => q.2 rfl))
  · exact (q.wide (F := F) (fun k hk => hk.1) hnb).from (Off.of_below hb0)
  · exact (Off.of_below hb0).seq (ho.mono (fun k hk => hk.elim .inl (fun q => .inr q.1)))
theorem cell_off {S : Nat → Prop} {w W : World} {b o : Nat} {v : Value} (h : w.cell? ⟨b, o, none⟩ = some v) (hS : ¬ S b) (ho : Off S w W) : W.cell? ⟨b, o, none⟩ = some v := by
  have hb := World.block_lt_of_cell? w _ h
  have := ho.block b hb hS
  unfold World.cell? at h ⊢
  simp only [this]
  exact h
/-- What is written of an attribute, of a change. -/
def wVl (v : Vl) : List Int := form v.k.toNat ++ wVal v.k.toNat v.n v.f.toNat v.s
def wAtt (a : Att) : List Int := form a.key.toNat ++ wVl (vlA a)
def wChg (c : Chg) : List Int := form c.key.toNat ++ wVl (vlC c)
/-- What of a value may be written. -/
structure WV (v : Vl) : Prop where
  k : 0 ≤ v.k ∧ v.k ≤ 4
  n : -9223372036854775808 ≤ v.n ∧ v.n ≤ 9223372036854775807
  f : 0 ≤ v.f ∧ v.f < 18446744073709551616
  s : v.s.size ≤ 1048576
structure WA (a : Att) : Prop where
  key : 0 ≤ a.key ∧ a.key ≤ 9223372036854775807
  v : WV (vlA a)
structure WC (c : Chg) : Prop where
  key : 0 ≤ c.key ∧ c.key ≤ 9223372036854775807
  v : WV (vlC c)
theorem wvalue_e {F : Nat → Prop} {bw : Nat} {xs : List Int} {v : Vl} {w : World} (h : WrE F bw xs w) (hF : ∀ k, w.heap.size ≤ k → F k) (hv : WV v) (hl : xs.length ≤ 900000000) :
    Calls Tryz.prog 86 #[.pointer (some ⟨bw, 0, none⟩), val v.k v.n v.f v.s] w (WrP F bw (xs ++ wVl v) w) := by
  obtain ⟨k, n, f, s⟩ := v
  obtain ⟨hk, hn, hf, hs⟩ := hv
  simp only at hk hn hf hs
  obtain ⟨fn, rfl⟩ : ∃ m : Nat, f = m := ⟨f.toNat, by omega⟩
  have := wvalue_n (k := k.toNat) (f := fn) (kk := k) h hF (by omega) (by omega) hn (by omega) hs hl
  exact this
set_option maxHeartbeats 4000000 in
theorem wcloA {F : Nat → Prop} {bw br : Nat} {xs : List Int} {x : Att} {w : World} (h : WrE F bw xs w) (hF : ∀ k, w.heap.size ≤ k → F k) (hbr : w.cell? ⟨br, 0, none⟩ = some (.pointer (some ⟨bw, 0, none⟩))) (hne : br ≠ bw) (hbF : ¬ F br) (hx : WA x) (hl : xs.length ≤ 800000000) :
    Calls Tryz.prog 90 #[av x, .pointer (some ⟨br, 0, none⟩)] w (WrP F bw (xs ++ wAtt x) w) := by
  obtain ⟨G, g, W0, ⟨hg, hW0⟩, hW, hGS, hCB, hEND, hOFF, hGF, hGg⟩ := clo_frame h hF (aca x) 61
  have hlb := World.block_lt_of_cell? w _ hbr
  have hbr1 : W0.cell? ⟨br, 0, none⟩ = some (.pointer (some ⟨bw, 0, none⟩)) := by rw [← hW0]; exact ((kbelow_one w _).cell (p := ⟨br, 0, none⟩) hlb).trans hbr
  have hnS : ¬ (fun k => k = bw ∨ G k) br := fun q => q.elim hne (fun q => hbF (hGF br q))
  have HBR := Lib.hid (fun W (ho : Off (fun k => k = bw ∨ G k) W0 W) => cell_off hbr1 hnS ho)
  have HCB := Lib.hid hCB
  have HGS := Lib.hid hGS
  obtain ⟨kn, hkn⟩ : ∃ m : Nat, x.key = m := ⟨x.key.toNat, by have := hx.key.1; omega⟩
  have hkb : kn ≤ 9223372036854775807 := by have := hx.key.2; omega
  have HN := Lib.hid (wnat_e hW (hGS W0 (Off.refl _ _)) (show kn < 18446744073709551616 by omega) (by omega))
  have hk10 := form_ten kn (show kn < 18446744073709551616 by omega)
  have HV := Lib.hid (fun W (ho : Off (fun k => k = bw ∨ G k) W0 W) (hm : WrE G bw (xs ++ form kn) W) => wvalue_e hm (hGS W ho) hx.v (by rw [List.length_append]; omega))
  have HEND := Lib.hid (fun e W => hEND e W (xs ++ wAtt x))
  have HEQ := Lib.hid (show xs ++ wAtt x = (xs ++ form kn) ++ wVl (vlA x) by unfold wAtt; rw [List.append_assoc, hkn]; rfl)
  have hcb0 := hCB W0 (Off.refl _ _)
  clear h hF hW hGS hCB hEND hOFF hGF hGg hbr hbF hx hnS
  obtain ⟨key, k, n, f, s⟩ := x
  simp only at hkn
  subst hkn
  unfold vlA at HV
  simp only at HV
  obtain ⟨d0, d1, d2, d3, d4⟩ := cb5 hcb0
  have hc0 := hbr1
  clear hcb0 hbr1
  go_enter Tryz.func90, Tryz.ntmps90
  go_wp2_with (first
    | (go_at_call 49; go_loud (refine HN.out.mono ?_; rintro e w1 ⟨rfl, hm, ho⟩; have HM1 := Lib.hid hm; have HO1 := Lib.hid ho; clear d0 d1 d2 d3 d4 hc0; obtain ⟨d0, d1, d2, d3, d4⟩ := cb5 (HCB.out _ ho); have hc0 := HBR.out _ ho; clear hm ho hW0))
    | (go_at_call 86; go_loud (refine (HV.out _ HO1.out HM1.out).mono ?_; rintro e w2 hq; have HQ := Lib.hid hq; obtain ⟨rfl, -, -⟩ := hq)))
  go_end0
  refine HEND.out _ _ ?_
  rw [HEQ.out]
  exact HQ.out.from HO1.out
set_option maxHeartbeats 4000000 in
theorem wcloC {F : Nat → Prop} {bw br : Nat} {xs : List Int} {x : Chg} {w : World} (h : WrE F bw xs w) (hF : ∀ k, w.heap.size ≤ k → F k) (hbr : w.cell? ⟨br, 0, none⟩ = some (.pointer (some ⟨bw, 0, none⟩))) (hne : br ≠ bw) (hbF : ¬ F br) (hx : WC x) (hl : xs.length ≤ 800000000) :
    Calls Tryz.prog 85 #[cv x, .pointer (some ⟨br, 0, none⟩)] w (WrP F bw (xs ++ wChg x) w) := by
  obtain ⟨G, g, W0, ⟨hg, hW0⟩, hW, hGS, hCB, hEND, hOFF, hGF, hGg⟩ := clo_frame h hF (cca x) 63
  have hlb := World.block_lt_of_cell? w _ hbr
  have hbr1 : W0.cell? ⟨br, 0, none⟩ = some (.pointer (some ⟨bw, 0, none⟩)) := by rw [← hW0]; exact ((kbelow_one w _).cell (p := ⟨br, 0, none⟩) hlb).trans hbr
  have hnS : ¬ (fun k => k = bw ∨ G k) br := fun q => q.elim hne (fun q => hbF (hGF br q))
  have HBR := Lib.hid (fun W (ho : Off (fun k => k = bw ∨ G k) W0 W) => cell_off hbr1 hnS ho)
  have HCB := Lib.hid hCB
  have HGS := Lib.hid hGS
  obtain ⟨kn, hkn⟩ : ∃ m : Nat, x.key = m := ⟨x.key.toNat, by have := hx.key.1; omega⟩
  have hkb : kn ≤ 9223372036854775807 := by have := hx.key.2; omega
  have HN := Lib.hid (wnat_e hW (hGS W0 (Off.refl _ _)) (show kn < 18446744073709551616 by omega) (by omega))
  have hk10 := form_ten kn (show kn < 18446744073709551616 by omega)
  have HV := Lib.hid (fun W (ho : Off (fun k => k = bw ∨ G k) W0 W) (hm : WrE G bw (xs ++ form kn) W) => wvalue_e hm (hGS W ho) hx.v (by rw [List.length_append]; omega))
  have HEND := Lib.hid (fun e W => hEND e W (xs ++ wChg x))
  have HEQ := Lib.hid (show xs ++ wChg x = (xs ++ form kn) ++ wVl (vlC x) by unfold wChg; rw [List.append_assoc, hkn]; rfl)
  have hcb0 := hCB W0 (Off.refl _ _)
  clear h hF hW hGS hCB hEND hOFF hGF hGg hbr hbF hx hnS
  obtain ⟨key, gg, k, n, f, s⟩ := x
  simp only at hkn
  subst hkn
  unfold vlC at HV
  simp only at HV
  obtain ⟨d0, d1, d2, d3, d4, d5⟩ := cb6 hcb0
  have hc0 := hbr1
  clear hcb0 hbr1
  go_enter Tryz.func85, Tryz.ntmps85
  go_wp2_with (first
    | (go_at_call 49; go_loud (refine HN.out.mono ?_; rintro e w1 ⟨rfl, hm, ho⟩; have HM1 := Lib.hid hm; have HO1 := Lib.hid ho; clear d0 d1 d2 d3 d4 d5 hc0; obtain ⟨d0, d1, d2, d3, d4, d5⟩ := cb6 (HCB.out _ ho); have hc0 := HBR.out _ ho; clear hm ho hW0))
    | (go_at_call 86; go_loud (refine (HV.out _ HO1.out HM1.out).mono ?_; rintro e w2 hq; have HQ := Lib.hid hq; obtain ⟨rfl, -, -⟩ := hq)))
  go_end0
  refine HEND.out _ _ ?_
  rw [HEQ.out]
  exact HQ.out.from HO1.out
end Go.Proofs.YtohgopibimgjfaaGreat

/- Q14: the program's writer: lists of attributes, of changes -/
namespace Go.Proofs.YtohgopibimgjfaaGreat
open Go.RowKit
set_option linter.unusedVariables false
set_option maxRecDepth 100000

/-- A list is written so far. -/
structure WLA (w : World) (F : Nat → Prop) (bw : Nat) (T0 : List Int) (xs : List Att) (k : Nat) (W : World) : Prop where
  m : WrE F bw (T0 ++ (form xs.length ++ (xs.take k).flatMap wAtt)) W
  o : Off (fun k => k = bw ∨ F k) w W
set_option maxHeartbeats 4000000 in
theorem wlistA {F : Nat → Prop} {bw br : Nat} {T0 : List Int} {xs : List Att} {v : Value} {w : World} (h : WrE F bw T0 w) (hF : ∀ k, w.heap.size ≤ k → F k) (hbr : w.cell? ⟨br, 0, none⟩ = some (.pointer (some ⟨bw, 0, none⟩))) (hne : br ≠ bw) (hbF : ¬ F br) (hx : Arow w v xs) (hna : ∀ a n c, v = .slice a n c → Na (fun k => k = bw ∨ F k) a n) (hW : ∀ x ∈ xs, WA x) (hl : (T0 ++ (form xs.length ++ xs.flatMap wAtt)).length ≤ 800000000) :
    Calls Tryz.prog 89 #[.pointer (some ⟨bw, 0, none⟩), v, .func (.func 90) #[] #[.pointer (some ⟨br, 0, none⟩)]] w (WrP F bw (T0 ++ (form xs.length ++ xs.flatMap wAtt)) w) := by
  have eg : ∀ args w, (callFunc 90 args).run Tryz.prog w = .ok (.enter 90 args) w := enters_of Tryz.func90 (by kernel_rfl) rfl
  have hxl := hx.len
  obtain ⟨a, c, rfl⟩ := hx.shape
  have hn := hna a _ c rfl
  have hnS : ¬ (fun k => k = bw ∨ F k) br := fun q => q.elim hne hbF
  have HBR := Lib.hid (fun W (ho : Off (fun k => k = bw ∨ F k) w W) => cell_off hbr hnS ho)
  have hbl := World.block_lt_of_cell? w _ hbr
  have hmx : xs.length < 18446744073709551616 := by unfold maxLen at hxl; omega
  have hform := form_ten xs.length hmx
  have hT0 : T0.length ≤ 800000000 := by rw [List.length_append] at hl; omega
  have HN := Lib.hid (wnat_e h hF hmx (by omega))
  have hpre : ∀ k, (T0 ++ (form xs.length ++ (xs.take k).flatMap wAtt)).length ≤ 800000000 := fun k => by
    have e : (xs.flatMap wAtt).length = ((xs.take k).flatMap wAtt).length + ((xs.drop k).flatMap wAtt).length := by rw [← List.length_append, ← List.flatMap_append, List.take_append_drop]
    rw [List.length_append, List.length_append] at hl ⊢
    omega
  have HC := Lib.hid (fun k (hk : k < xs.length) W (hb : Off (fun k => k = bw ∨ F k) w W) (hm : WrE F bw (T0 ++ (form xs.length ++ (xs.take k).flatMap wAtt)) W) => wcloA (x := xs[k]) hm (fun j hj => hF j (Nat.le_trans hb.size hj)) (HBR.out W hb) hne hbF (hW _ (List.getElem_mem hk)) (hpre k))
  have HTK := Lib.hid (fun k (hk : k < xs.length) => (by rw [List.take_add_one, List.getElem?_eq_getElem hk, Option.toList_some, List.flatMap_append, List.flatMap_singleton, ← List.append_assoc, ← List.append_assoc, ← List.append_assoc] : T0 ++ (form xs.length ++ (xs.take (k + 1)).flatMap wAtt) = (T0 ++ (form xs.length ++ (xs.take k).flatMap wAtt)) ++ wAtt xs[k]))
  clear hl hpre hnS hform hT0 hW
  unfold maxLen at hxl
  by_cases h0 : 0 < xs.length
  · obtain ⟨b1, o1, rfl, -, -, -, hbk, -⟩ := Arow.opn hx h0
    have HAT := Lib.hid (fun W (ho : Off (fun k => k = bw ∨ F k) w W) k (hk : k < xs.length) => (by
      obtain ⟨b', o', e, -, -, -, -, hat⟩ := Arow.opn (Row.off hx ho hn) h0
      injection e with e
      injection e with e1 e2
      subst e1 e2
      exact hat k hk : AAt b1 (o1 + k * 5) xs[k] W))
    clear hx hn hna hbr hF h
    go_enter Tryz.func89, Tryz.ntmps89
    go_wp2_with (go_at_call 49; go_loud (refine HN.out.mono ?_; rintro e w1 ⟨rfl, hm, ho⟩; have HM1 := Lib.hid hm; have HO1 := Lib.hid ho; clear hm ho))
    go_loopw [15] (fun i wr => ∃ k : Nat, k ≤ xs.length ∧ i = .int .i64 k ∧ Hid (WLA w F bw T0 xs k wr)) (fun i _ => xs.length - (intOf i).toNat)
    case atStart => exact ⟨0, Nat.zero_le _, rfl, Lib.hid ⟨(by simpa using HM1.out), HO1.out⟩⟩
    case round =>
      clear HM1 HO1 HN
      obtain ⟨k, hk, rfl, HL⟩ := hrel
      by_cases hlt : k < xs.length
      · have hat := HAT.out wr HL.out.o k hlt
        have HCC := Lib.hid (HC.out k hlt)
        have HT := HTK.out k hlt
        have HTT := Lib.hid HT
        clear HT
        generalize xs[k] = x at *
        obtain ⟨key, kk, n, f, s⟩ := x
        obtain ⟨d0, d1, d2, d3, d4⟩ := hat
        have HB := Lib.hid (kbelow_one wr (.cells (aca ⟨key, kk, n, f, s⟩) 61))
        have HO := Lib.hid (HL.out.o.seq (Off.of_below HB.out))
        have HM := Lib.hid (WrE.below HL.out.m HB.out)
        go_wp2_with (go_at_fn 90; go_loud (refine (HCC.out _ HO.out HM.out).mono ?_; rintro e w2 ⟨rfl, hm, ho⟩; have HM2 := Lib.hid hm; have HO2 := Lib.hid (HO.out.seq ho); clear hm ho))
        go_roundw
        case rel => exact ⟨k + 1, by omega, by go_num, Lib.hid ⟨by rw [HTT.out]; exact HM2.out, HO2.out⟩⟩
        case measure => simp [intOf]; omega
      · obtain rfl : k = xs.length := by omega
        have HE := Lib.hid (show WrP F bw (T0 ++ (form xs.length ++ xs.flatMap wAtt)) w (.returned (.tuple #[])) wr from ⟨rfl, (by have := HL.out.m; rwa [List.take_of_length_le (Nat.le_refl _)] at this), HL.out.o⟩)
        go_wp2
        go_end0
        exact HE.out
  · obtain rfl : xs = [] := List.eq_nil_of_length_eq_zero (by omega)
    clear hx hn hna hbr hF h h0 hxl
    go_enter Tryz.func89, Tryz.ntmps89
    go_wp2_with (go_at_call 49; go_loud (refine HN.out.mono ?_; rintro e w1 ⟨rfl, hm, ho⟩; have HM1 := Lib.hid hm; have HO1 := Lib.hid ho; clear hm ho))
    refine wp_loop_rounds 1 ?_
    rw [rounds_succ]
    go_wp2
    go_end0
    exact ⟨rfl, (by simpa using HM1.out), HO1.out⟩
theorem wset_any {F : Nat → Prop} {bw : Nat} {T0 : List Int} {xs : List Att} {v : Value} {w : World} (h : WrE F bw T0 w) (hF : ∀ k, w.heap.size ≤ k → F k) (hx : Arow w v xs) (hna : ∀ a n c, v = .slice a n c → Na (fun k => k = bw ∨ F k) a n) (hW : ∀ x ∈ xs, WA x) (hl : (T0 ++ (form xs.length ++ xs.flatMap wAtt)).length ≤ 800000000) :
    Calls Tryz.prog 52 #[.pointer (some ⟨bw, 0, none⟩), v] w (WrP F bw (T0 ++ (form xs.length ++ xs.flatMap wAtt)) w) := by
  obtain ⟨G, g, W0, ⟨hg, hW0⟩, hW2, hGS, hCB, hEND, hOFF, hGF, hGg⟩ := clo_frame h hF #[.pointer (some ⟨bw, 0, none⟩)] 65
  have hcb := hCB W0 (Off.refl _ _)
  have hlt := h.lt
  have hb0 : Below w.heap.size w W0 := hW0 ▸ kbelow_one w _
  have HL := Lib.hid (wlistA hW2 (hGS W0 (Off.refl _ _)) (hcb.cell 0) (by omega) hGg (hx.below hb0 (Nat.le_refl _)) (fun a n c e => (hna a n c e).mono (fun k hk => hk.elim .inl (fun q => .inr (hGF k q)))) hW hl)
  have HEND := Lib.hid (fun e W ys => hEND e W ys)
  have c0 := hcb.cell 0
  obtain ⟨a, c, rfl⟩ := hx.shape
  clear h hF hx hna hW hl hW2 hGS hCB hEND hOFF hGF hGg hcb hlt hb0
  go_enter Tryz.func52, Tryz.ntmps52
  go_wp2_with (go_at_call 89; go_loud (refine HL.out.mono ?_; rintro e w1 hq; have HQ := Lib.hid hq; obtain ⟨rfl, -, -⟩ := hq))
  go_end0
  exact HEND.out _ _ _ HQ.out
/-- A list is written so far. -/
structure WLC (w : World) (F : Nat → Prop) (bw : Nat) (T0 : List Int) (xs : List Chg) (k : Nat) (W : World) : Prop where
  m : WrE F bw (T0 ++ (form xs.length ++ (xs.take k).flatMap wChg)) W
  o : Off (fun k => k = bw ∨ F k) w W
set_option maxHeartbeats 4000000 in
theorem wlistC {F : Nat → Prop} {bw br : Nat} {T0 : List Int} {xs : List Chg} {v : Value} {w : World} (h : WrE F bw T0 w) (hF : ∀ k, w.heap.size ≤ k → F k) (hbr : w.cell? ⟨br, 0, none⟩ = some (.pointer (some ⟨bw, 0, none⟩))) (hne : br ≠ bw) (hbF : ¬ F br) (hx : Crow w v xs) (hna : ∀ a n c, v = .slice a n c → Na (fun k => k = bw ∨ F k) a n) (hW : ∀ x ∈ xs, WC x) (hl : (T0 ++ (form xs.length ++ xs.flatMap wChg)).length ≤ 800000000) :
    Calls Tryz.prog 84 #[.pointer (some ⟨bw, 0, none⟩), v, .func (.func 85) #[] #[.pointer (some ⟨br, 0, none⟩)]] w (WrP F bw (T0 ++ (form xs.length ++ xs.flatMap wChg)) w) := by
  have eg : ∀ args w, (callFunc 85 args).run Tryz.prog w = .ok (.enter 85 args) w := enters_of Tryz.func85 (by kernel_rfl) rfl
  have hxl := hx.len
  obtain ⟨a, c, rfl⟩ := hx.shape
  have hn := hna a _ c rfl
  have hnS : ¬ (fun k => k = bw ∨ F k) br := fun q => q.elim hne hbF
  have HBR := Lib.hid (fun W (ho : Off (fun k => k = bw ∨ F k) w W) => cell_off hbr hnS ho)
  have hbl := World.block_lt_of_cell? w _ hbr
  have hmx : xs.length < 18446744073709551616 := by unfold maxLen at hxl; omega
  have hform := form_ten xs.length hmx
  have hT0 : T0.length ≤ 800000000 := by rw [List.length_append] at hl; omega
  have HN := Lib.hid (wnat_e h hF hmx (by omega))
  have hpre : ∀ k, (T0 ++ (form xs.length ++ (xs.take k).flatMap wChg)).length ≤ 800000000 := fun k => by
    have e : (xs.flatMap wChg).length = ((xs.take k).flatMap wChg).length + ((xs.drop k).flatMap wChg).length := by rw [← List.length_append, ← List.flatMap_append, List.take_append_drop]
    rw [List.length_append, List.length_append] at hl ⊢
    omega
  have HC := Lib.hid (fun k (hk : k < xs.length) W (hb : Off (fun k => k = bw ∨ F k) w W) (hm : WrE F bw (T0 ++ (form xs.length ++ (xs.take k).flatMap wChg)) W) => wcloC (x := xs[k]) hm (fun j hj => hF j (Nat.le_trans hb.size hj)) (HBR.out W hb) hne hbF (hW _ (List.getElem_mem hk)) (hpre k))
  have HTK := Lib.hid (fun k (hk : k < xs.length) => (by rw [List.take_add_one, List.getElem?_eq_getElem hk, Option.toList_some, List.flatMap_append, List.flatMap_singleton, ← List.append_assoc, ← List.append_assoc, ← List.append_assoc] : T0 ++ (form xs.length ++ (xs.take (k + 1)).flatMap wChg) = (T0 ++ (form xs.length ++ (xs.take k).flatMap wChg)) ++ wChg xs[k]))
  clear hl hpre hnS hform hT0 hW
  unfold maxLen at hxl
  by_cases h0 : 0 < xs.length
  · obtain ⟨b1, o1, rfl, -, -, -, hbk, -⟩ := Crow.opn hx h0
    have HAT := Lib.hid (fun W (ho : Off (fun k => k = bw ∨ F k) w W) k (hk : k < xs.length) => (by
      obtain ⟨b', o', e, -, -, -, -, hat⟩ := Crow.opn (Row.off hx ho hn) h0
      injection e with e
      injection e with e1 e2
      subst e1 e2
      exact hat k hk : CAt b1 (o1 + k * 6) xs[k] W))
    clear hx hn hna hbr hF h
    go_enter Tryz.func84, Tryz.ntmps84
    go_wp2_with (go_at_call 49; go_loud (refine HN.out.mono ?_; rintro e w1 ⟨rfl, hm, ho⟩; have HM1 := Lib.hid hm; have HO1 := Lib.hid ho; clear hm ho))
    go_loopw [15] (fun i wr => ∃ k : Nat, k ≤ xs.length ∧ i = .int .i64 k ∧ Hid (WLC w F bw T0 xs k wr)) (fun i _ => xs.length - (intOf i).toNat)
    case atStart => exact ⟨0, Nat.zero_le _, rfl, Lib.hid ⟨(by simpa using HM1.out), HO1.out⟩⟩
    case round =>
      clear HM1 HO1 HN
      obtain ⟨k, hk, rfl, HL⟩ := hrel
      by_cases hlt : k < xs.length
      · have hat := HAT.out wr HL.out.o k hlt
        have HCC := Lib.hid (HC.out k hlt)
        have HT := HTK.out k hlt
        have HTT := Lib.hid HT
        clear HT
        generalize xs[k] = x at *
        obtain ⟨key, gg, kk, n, f, s⟩ := x
        obtain ⟨d0, d1, d2, d3, d4, d5⟩ := hat
        have HB := Lib.hid (kbelow_one wr (.cells (cca ⟨key, gg, kk, n, f, s⟩) 63))
        have HO := Lib.hid (HL.out.o.seq (Off.of_below HB.out))
        have HM := Lib.hid (WrE.below HL.out.m HB.out)
        go_wp2_with (go_at_fn 85; go_loud (refine (HCC.out _ HO.out HM.out).mono ?_; rintro e w2 ⟨rfl, hm, ho⟩; have HM2 := Lib.hid hm; have HO2 := Lib.hid (HO.out.seq ho); clear hm ho))
        go_roundw
        case rel => exact ⟨k + 1, by omega, by go_num, Lib.hid ⟨by rw [HTT.out]; exact HM2.out, HO2.out⟩⟩
        case measure => simp [intOf]; omega
      · obtain rfl : k = xs.length := by omega
        have HE := Lib.hid (show WrP F bw (T0 ++ (form xs.length ++ xs.flatMap wChg)) w (.returned (.tuple #[])) wr from ⟨rfl, (by have := HL.out.m; rwa [List.take_of_length_le (Nat.le_refl _)] at this), HL.out.o⟩)
        go_wp2
        go_end0
        exact HE.out
  · obtain rfl : xs = [] := List.eq_nil_of_length_eq_zero (by omega)
    clear hx hn hna hbr hF h h0 hxl
    go_enter Tryz.func84, Tryz.ntmps84
    go_wp2_with (go_at_call 49; go_loud (refine HN.out.mono ?_; rintro e w1 ⟨rfl, hm, ho⟩; have HM1 := Lib.hid hm; have HO1 := Lib.hid ho; clear hm ho))
    refine wp_loop_rounds 1 ?_
    rw [rounds_succ]
    go_wp2
    go_end0
    exact ⟨rfl, (by simpa using HM1.out), HO1.out⟩
theorem wpatch_any {F : Nat → Prop} {bw : Nat} {T0 : List Int} {xs : List Chg} {v : Value} {w : World} (h : WrE F bw T0 w) (hF : ∀ k, w.heap.size ≤ k → F k) (hx : Crow w v xs) (hna : ∀ a n c, v = .slice a n c → Na (fun k => k = bw ∨ F k) a n) (hW : ∀ x ∈ xs, WC x) (hl : (T0 ++ (form xs.length ++ xs.flatMap wChg)).length ≤ 800000000) :
    Calls Tryz.prog 50 #[.pointer (some ⟨bw, 0, none⟩), v] w (WrP F bw (T0 ++ (form xs.length ++ xs.flatMap wChg)) w) := by
  obtain ⟨G, g, W0, ⟨hg, hW0⟩, hW2, hGS, hCB, hEND, hOFF, hGF, hGg⟩ := clo_frame h hF #[.pointer (some ⟨bw, 0, none⟩)] 65
  have hcb := hCB W0 (Off.refl _ _)
  have hlt := h.lt
  have hb0 : Below w.heap.size w W0 := hW0 ▸ kbelow_one w _
  have HL := Lib.hid (wlistC hW2 (hGS W0 (Off.refl _ _)) (hcb.cell 0) (by omega) hGg (hx.below hb0 (Nat.le_refl _)) (fun a n c e => (hna a n c e).mono (fun k hk => hk.elim .inl (fun q => .inr (hGF k q)))) hW hl)
  have HEND := Lib.hid (fun e W ys => hEND e W ys)
  have c0 := hcb.cell 0
  obtain ⟨a, c, rfl⟩ := hx.shape
  clear h hF hx hna hW hl hW2 hGS hCB hEND hOFF hGF hGg hcb hlt hb0
  go_enter Tryz.func50, Tryz.ntmps50
  go_wp2_with (go_at_call 84; go_loud (refine HL.out.mono ?_; rintro e w1 hq; have HQ := Lib.hid hq; obtain ⟨rfl, -, -⟩ := hq))
  go_end0
  exact HEND.out _ _ _ HQ.out
end Go.Proofs.YtohgopibimgjfaaGreat

/- Q15: the program's writer: ops; Encode -/
namespace Go.Proofs.YtohgopibimgjfaaGreat
open Go.RowKit
set_option linter.unusedVariables false
set_option maxRecDepth 100000

def wPatch (pt : List Chg) : List Int := form pt.length ++ pt.flatMap wChg
def wSet (st : List Att) : List Int := form st.length ++ st.flatMap wAtt
def wOp (o : Opn) : List Int := form o.k.toNat ++ if o.k.toNat = 1 then form o.n.toNat ++ wPatch o.pt else if o.k.toNat = 2 then eRunes o.rs ++ wSet o.st else form o.n.toNat
/-- What of an op may be written. -/
structure WO (z : Oz) : Prop where
  k : z.k = 1 ∨ z.k = 2 ∨ z.k = 3
  n : 0 ≤ z.n ∧ z.n ≤ 9223372036854775807
  r : z.k = 2 → allMay z.rs = true ∧ z.rs.length ≤ 1048576
  s : ∀ a ∈ z.st, WA a
  p : ∀ c ∈ z.pt, WC c
theorem ints_na2 {S : Nat → Prop} {w : World} {z : Oz} (h : OpNa S z) : ∀ a n c, (Value.slice z.sa z.st.length z.sc) = .slice a n c → Na S a n := fun a n c e => by
  injection e with e1 e2
  subst e1 e2
  exact h.s
theorem ints_na3 {S : Nat → Prop} {w : World} {z : Oz} (h : OpNa S z) : ∀ a n c, (Value.slice z.pa z.pt.length z.pc) = .slice a n c → Na S a n := fun a n c e => by
  injection e with e1 e2
  subst e1 e2
  exact h.p
set_option maxHeartbeats 8000000 in
theorem wcloO {F : Nat → Prop} {bw br : Nat} {xs : List Int} {z : Oz} {w : World} (h : WrE F bw xs w) (hF : ∀ k, w.heap.size ≤ k → F k) (hbr : w.cell? ⟨br, 0, none⟩ = some (.pointer (some ⟨bw, 0, none⟩))) (hne : br ≠ bw) (hbF : ¬ F br) (hz : OpOk w z) (hnz : OpNa (fun k => k = bw ∨ F k) z) (hx : WO z) (hl : (xs ++ wOp z.o).length ≤ 700000000) :
    Calls Tryz.prog 48 #[z.v, .pointer (some ⟨br, 0, none⟩)] w (WrP F bw (xs ++ wOp z.o) w) := by
  obtain ⟨G, g, W0, ⟨hg, hW0⟩, hW, hGS, hCB, hEND, hOFF, hGF, hGg⟩ := clo_frame h hF z.cs 56
  have hlb := World.block_lt_of_cell? w _ hbr
  have hb0 : Below w.heap.size w W0 := hW0 ▸ kbelow_one w _
  have hbr1 : W0.cell? ⟨br, 0, none⟩ = some (.pointer (some ⟨bw, 0, none⟩)) := (hb0.cell (p := ⟨br, 0, none⟩) hlb).trans hbr
  have hnS : ¬ (fun k => k = bw ∨ G k) br := fun q => q.elim hne (fun q => hbF (hGF br q))
  have HBR := Lib.hid (fun W (ho : Off (fun k => k = bw ∨ G k) W0 W) => cell_off hbr1 hnS ho)
  have hnz2 : OpNa (fun k => k = bw ∨ G k) z := hnz.mono (fun k hk => hk.elim .inl (fun q => .inr (hGF k q)))
  have HZ := Lib.hid (fun W (ho : Off (fun k => k = bw ∨ G k) W0 W) => (hz.below hb0).off ho hnz2)
  have HCB := Lib.hid hCB
  have HGS := Lib.hid hGS
  obtain ⟨kn, hkn⟩ : ∃ m : Nat, z.n = m := ⟨z.n.toNat, by have := hx.n.1; omega⟩
  have hkb : kn ≤ 9223372036854775807 := by have := hx.n.2; omega
  have HEND := Lib.hid (fun e W => hEND e W (xs ++ wOp z.o))
  have hcb0 := hCB W0 (Off.refl _ _)
  have hk10 := form_ten kn (show kn < 18446744073709551616 by omega)
  have en : z.o.n = z.n := rfl
  have ek : z.o.k = z.k := rfl
  have er : z.o.rs = z.rs := rfl
  have es : z.o.st = z.st := rfl
  have ep : z.o.pt = z.pt := rfl
  have HWO := Lib.hid hx
  have HNZ := Lib.hid hnz2
  have hxl : xs.length ≤ 700000000 := by rw [List.length_append] at hl; omega
  have hka := hx.k
  have HKN := Lib.hid (fun (m : Nat) (hm : m < 100) => wnat_e hW (hGS W0 (Off.refl _ _)) (show m < 18446744073709551616 by omega) (by omega))
  have hc0 := hbr1
  clear h hF hW hGS hCB hEND hOFF hGF hGg hbr hbF hx hnS hz hnz hnz2 hb0 hbr1
  rcases hka with hz1 | hz1 | hz1
  · have hwo : wOp z.o = form 1 ++ (form kn ++ wPatch z.pt) := by unfold wOp; rw [en, ek, ep, hz1, hkn]; rfl
    have heq : xs ++ wOp z.o = ((xs ++ form 1) ++ form kn) ++ wPatch z.pt := by rw [hwo, List.append_assoc, List.append_assoc]
    have h1l : (form 1).length ≤ 10 := form_ten 1 (by omega)
    have hl2 : (((xs ++ form 1) ++ form kn) ++ wPatch z.pt).length ≤ 800000000 := by rw [← heq]; omega
    have HEQ := Lib.hid heq
    have HNN := Lib.hid (fun W (ho : Off (fun k => k = bw ∨ G k) W0 W) (hm : WrE G bw (xs ++ form 1) W) => wnat_e hm (HGS.out W ho) (show kn < 18446744073709551616 by omega) (by rw [List.length_append]; omega))
    have HPP := Lib.hid (fun W (ho : Off (fun k => k = bw ∨ G k) W0 W) (hm : WrE G bw ((xs ++ form 1) ++ form kn) W) => wpatch_any hm (HGS.out W ho) (HZ.out W ho).p (ints_na3 (w := W) HNZ.out) HWO.out.p hl2)
    clear hl hl2 heq hwo HZ HNZ HWO
    obtain ⟨zk, zn, zra, zrc, zrs, zsa, zsc, zst, zpa, zpc, zpt⟩ := z
    simp only at hz1 hkn
    subst hz1
    subst hkn
    obtain ⟨d0, d1, d2, d3, d4⟩ := cb5 hcb0
    have HN := Lib.hid (show Calls Tryz.prog 49 #[.pointer (some ⟨bw, 0, none⟩), .int .u64 1] W0 (WrP G bw (xs ++ form 1) W0) from HKN.out 1 (by omega))
    clear hcb0 en ek er es ep HKN
    go_enter Tryz.func48, Tryz.ntmps48
    go_wp2_with (first
      | (go_at_call 49; go_loud ((with_reducible refine HN.out.mono ?_); rintro e w1 ⟨rfl, hm, ho⟩; have HM1 := Lib.hid hm; have HO1 := Lib.hid ho; clear d0 d1 d2 d3 d4 hc0; obtain ⟨d0, d1, d2, d3, d4⟩ := cb5 (HCB.out _ ho); have hc0 := HBR.out _ ho; clear hm ho hW0))
      | (go_at_call 49; go_loud ((with_reducible refine (HNN.out _ HO1.out HM1.out).mono ?_); rintro e w2 ⟨rfl, hm, ho⟩; have HM2 := Lib.hid hm; have HO2 := Lib.hid (HO1.out.seq ho); clear d0 d1 d2 d3 d4 hc0; obtain ⟨d0, d1, d2, d3, d4⟩ := cb5 (HCB.out _ HO2.out); have hc0 := HBR.out _ HO2.out; clear hm ho))
      | (go_at_call 50; go_loud (refine (HPP.out _ HO2.out HM2.out).mono ?_; rintro e w3 hq; have HQ := Lib.hid hq; obtain ⟨rfl, -, -⟩ := hq)))
    go_end0
    refine HEND.out _ _ ?_
    rw [HEQ.out]
    exact HQ.out.from HO2.out
  · have hwo : wOp z.o = form 2 ++ (eRunes z.rs ++ wSet z.st) := by unfold wOp; rw [ek, er, es, hz1]; rfl
    have heq : xs ++ wOp z.o = ((xs ++ form 2) ++ eRunes z.rs) ++ wSet z.st := by rw [hwo, List.append_assoc, List.append_assoc]
    have h1l : (form 2).length ≤ 10 := form_ten 2 (by omega)
    have hl2 : (((xs ++ form 2) ++ eRunes z.rs) ++ wSet z.st).length ≤ 800000000 := by rw [← heq]; omega
    have HEQ := Lib.hid heq
    obtain ⟨hr1, hr2⟩ := HWO.out.r hz1
    have HNN := Lib.hid (fun W (ho : Off (fun k => k = bw ∨ G k) W0 W) (hm : WrE G bw (xs ++ form 2) W) => wtext_any hm (HGS.out W ho) (HZ.out W ho).r hr1 hr2 (by rw [List.length_append]; omega))
    have HPP := Lib.hid (fun W (ho : Off (fun k => k = bw ∨ G k) W0 W) (hm : WrE G bw ((xs ++ form 2) ++ eRunes z.rs) W) => wset_any hm (HGS.out W ho) (HZ.out W ho).s (ints_na2 (w := W) HNZ.out) HWO.out.s hl2)
    clear hl hl2 heq hwo HZ HNZ HWO hr1 hr2
    obtain ⟨zk, zn, zra, zrc, zrs, zsa, zsc, zst, zpa, zpc, zpt⟩ := z
    simp only at hz1 hkn
    subst hz1
    subst hkn
    obtain ⟨d0, d1, d2, d3, d4⟩ := cb5 hcb0
    have HN := Lib.hid (show Calls Tryz.prog 49 #[.pointer (some ⟨bw, 0, none⟩), .int .u64 2] W0 (WrP G bw (xs ++ form 2) W0) from HKN.out 2 (by omega))
    clear hcb0 en ek er es ep HKN
    go_enter Tryz.func48, Tryz.ntmps48
    go_wp2_with (first
      | (go_at_call 49; go_loud ((with_reducible refine HN.out.mono ?_); rintro e w1 ⟨rfl, hm, ho⟩; have HM1 := Lib.hid hm; have HO1 := Lib.hid ho; clear d0 d1 d2 d3 d4 hc0; obtain ⟨d0, d1, d2, d3, d4⟩ := cb5 (HCB.out _ ho); have hc0 := HBR.out _ ho; clear hm ho hW0))
      | (go_at_call 51; go_loud ((with_reducible refine (HNN.out _ HO1.out HM1.out).mono ?_); rintro e w2 ⟨rfl, hm, ho⟩; have HM2 := Lib.hid hm; have HO2 := Lib.hid (HO1.out.seq ho); clear d0 d1 d2 d3 d4 hc0; obtain ⟨d0, d1, d2, d3, d4⟩ := cb5 (HCB.out _ HO2.out); have hc0 := HBR.out _ HO2.out; clear hm ho))
      | (go_at_call 52; go_loud (refine (HPP.out _ HO2.out HM2.out).mono ?_; rintro e w3 hq; have HQ := Lib.hid hq; obtain ⟨rfl, -, -⟩ := hq)))
    go_end0
    refine HEND.out _ _ ?_
    rw [HEQ.out]
    exact HQ.out.from HO2.out
  · have hwo : wOp z.o = form 3 ++ form kn := by unfold wOp; rw [en, ek, hz1, hkn]; rfl
    have heq : xs ++ wOp z.o = (xs ++ form 3) ++ form kn := by rw [hwo, List.append_assoc]
    have h1l : (form 3).length ≤ 10 := form_ten 3 (by omega)
    have HEQ := Lib.hid heq
    have HNN := Lib.hid (fun W (ho : Off (fun k => k = bw ∨ G k) W0 W) (hm : WrE G bw (xs ++ form 3) W) => wnat_e hm (HGS.out W ho) (show kn < 18446744073709551616 by omega) (by rw [List.length_append]; omega))
    clear hl heq hwo HZ HNZ HWO
    obtain ⟨zk, zn, zra, zrc, zrs, zsa, zsc, zst, zpa, zpc, zpt⟩ := z
    simp only at hz1 hkn
    subst hz1
    subst hkn
    obtain ⟨d0, d1, d2, d3, d4⟩ := cb5 hcb0
    have HN := Lib.hid (show Calls Tryz.prog 49 #[.pointer (some ⟨bw, 0, none⟩), .int .u64 3] W0 (WrP G bw (xs ++ form 3) W0) from HKN.out 3 (by omega))
    clear hcb0 en ek er es ep HKN
    go_enter Tryz.func48, Tryz.ntmps48
    go_wp2_with (first
      | (go_at_call 49; go_loud ((with_reducible refine HN.out.mono ?_); rintro e w1 ⟨rfl, hm, ho⟩; have HM1 := Lib.hid hm; have HO1 := Lib.hid ho; clear d0 d1 d2 d3 d4 hc0; obtain ⟨d0, d1, d2, d3, d4⟩ := cb5 (HCB.out _ ho); have hc0 := HBR.out _ ho; clear hm ho hW0))
      | (go_at_call 49; go_loud (refine (HNN.out _ HO1.out HM1.out).mono ?_; rintro e w2 hq; have HQ := Lib.hid hq; obtain ⟨rfl, -, -⟩ := hq)))
    go_end0
    refine HEND.out _ _ ?_
    rw [HEQ.out]
    exact HQ.out.from HO1.out
end Go.Proofs.YtohgopibimgjfaaGreat

/- Q16: the program's Encode -/
namespace Go.Proofs.YtohgopibimgjfaaGreat
open Go.RowKit
set_option linter.unusedVariables false
set_option maxRecDepth 100000

/-- A list is written so far. -/
structure WLO (w : World) (F : Nat → Prop) (bw : Nat) (T0 : List Int) (xs : List Oz) (k : Nat) (W : World) : Prop where
  m : WrE F bw (T0 ++ (form xs.length ++ (xs.take k).flatMap (fun z => wOp z.o))) W
  o : Off (fun k => k = bw ∨ F k) w W
set_option maxHeartbeats 4000000 in
theorem wlistO {F : Nat → Prop} {bw br : Nat} {T0 : List Int} {xs : List Oz} {v : Value} {w : World} (h : WrE F bw T0 w) (hF : ∀ k, w.heap.size ≤ k → F k) (hbr : w.cell? ⟨br, 0, none⟩ = some (.pointer (some ⟨bw, 0, none⟩))) (hne : br ≠ bw) (hbF : ¬ F br) (hx : Orow w v xs) (hna : ∀ a n c, v = .slice a n c → Na (fun k => k = bw ∨ F k) a n) (hnz : ∀ z ∈ xs, OpNa (fun k => k = bw ∨ F k) z) (hW : ∀ x ∈ xs, WO x) (hl : (T0 ++ (form xs.length ++ xs.flatMap (fun z => wOp z.o))).length ≤ 700000000) :
    Calls Tryz.prog 47 #[.pointer (some ⟨bw, 0, none⟩), v, .func (.func 48) #[] #[.pointer (some ⟨br, 0, none⟩)]] w (WrP F bw (T0 ++ (form xs.length ++ xs.flatMap (fun z => wOp z.o))) w) := by
  have eg : ∀ args w, (callFunc 48 args).run Tryz.prog w = .ok (.enter 48 args) w := enters_of Tryz.func48 (by kernel_rfl) rfl
  have hxl := hx.row.len
  obtain ⟨a, c, rfl⟩ := hx.row.shape
  have hn := hna a _ c rfl
  have hnS : ¬ (fun k => k = bw ∨ F k) br := fun q => q.elim hne hbF
  have HBR := Lib.hid (fun W (ho : Off (fun k => k = bw ∨ F k) w W) => cell_off hbr hnS ho)
  have hbl := World.block_lt_of_cell? w _ hbr
  have hmx : xs.length < 18446744073709551616 := by unfold maxLen at hxl; omega
  have hform := form_ten xs.length hmx
  have hT0 : T0.length ≤ 700000000 := by rw [List.length_append] at hl; omega
  have HN := Lib.hid (wnat_e h hF hmx (by omega))
  have hpre : ∀ k, (T0 ++ (form xs.length ++ (xs.take k).flatMap (fun z => wOp z.o))).length ≤ 700000000 := fun k => by
    have e : (xs.flatMap (fun z => wOp z.o)).length = ((xs.take k).flatMap (fun z => wOp z.o)).length + ((xs.drop k).flatMap (fun z => wOp z.o)).length := by rw [← List.length_append, ← List.flatMap_append, List.take_append_drop]
    rw [List.length_append, List.length_append] at hl ⊢
    omega
  have hpre2 : ∀ k (hk : k < xs.length), ((T0 ++ (form xs.length ++ (xs.take k).flatMap (fun z => wOp z.o))) ++ wOp xs[k].o).length ≤ 700000000 := fun k hk => by
    have h2 := hpre (k + 1)
    rw [List.take_add_one, List.getElem?_eq_getElem hk, Option.toList_some, List.flatMap_append, List.flatMap_singleton, ← List.append_assoc, ← List.append_assoc] at h2
    rw [← List.append_assoc]
    exact h2
  have HC := Lib.hid (fun k (hk : k < xs.length) W (hb : Off (fun k => k = bw ∨ F k) w W) (hm : WrE F bw (T0 ++ (form xs.length ++ (xs.take k).flatMap (fun z => wOp z.o))) W) => wcloO (z := xs[k]) hm (fun j hj => hF j (Nat.le_trans hb.size hj)) (HBR.out W hb) hne hbF ((hx.off hb hn hnz).ok _ (List.getElem_mem hk)) (hnz _ (List.getElem_mem hk)) (hW _ (List.getElem_mem hk)) (hpre2 k hk))
  have HTK := Lib.hid (fun k (hk : k < xs.length) => (by rw [List.take_add_one, List.getElem?_eq_getElem hk, Option.toList_some, List.flatMap_append, List.flatMap_singleton, ← List.append_assoc, ← List.append_assoc, ← List.append_assoc] : T0 ++ (form xs.length ++ (xs.take (k + 1)).flatMap (fun z => wOp z.o)) = (T0 ++ (form xs.length ++ (xs.take k).flatMap (fun z => wOp z.o))) ++ wOp xs[k].o))
  clear hl hpre hpre2 hnS hform hT0 hW hnz
  unfold maxLen at hxl
  by_cases h0 : 0 < xs.length
  · obtain ⟨b1, o1, rfl, -, -, -, hbk, -⟩ := Row.ats hx.row h0
    have HAT := Lib.hid (fun W (ho : Off (fun k => k = bw ∨ F k) w W) k (hk : k < xs.length) => (by
      obtain ⟨b', o', e, -, -, -, -, hat⟩ := Row.ats (Row.off hx.row ho hn) h0
      injection e with e
      injection e with e1 e2
      subst e1 e2
      exact hat k hk : OAt b1 (o1 + k * 5) xs[k] W))
    clear hx hn hna hbr hF h
    go_enter Tryz.func47, Tryz.ntmps47
    go_wp2_with (go_at_call 49; go_loud (refine HN.out.mono ?_; rintro e w1 ⟨rfl, hm, ho⟩; have HM1 := Lib.hid hm; have HO1 := Lib.hid ho; clear hm ho))
    go_loopw [15] (fun i wr => ∃ k : Nat, k ≤ xs.length ∧ i = .int .i64 k ∧ Hid (WLO w F bw T0 xs k wr)) (fun i _ => xs.length - (intOf i).toNat)
    case atStart => exact ⟨0, Nat.zero_le _, rfl, Lib.hid ⟨(by simpa using HM1.out), HO1.out⟩⟩
    case round =>
      clear HM1 HO1 HN
      obtain ⟨k, hk, rfl, HL⟩ := hrel
      by_cases hlt : k < xs.length
      · have hat := HAT.out wr HL.out.o k hlt
        have HCC := Lib.hid (HC.out k hlt)
        have HT := HTK.out k hlt
        have HTT := Lib.hid HT
        clear HT
        generalize xs[k] = x at *
        obtain ⟨zk, zn, zra, zrc, zrs, zsa, zsc, zst, zpa, zpc, zpt⟩ := x
        obtain ⟨d0, d1, d2, d3, d4⟩ := hat
        have HB := Lib.hid (kbelow_one wr (.cells (opcs zk zn zra zrs.length zrc zsa zst.length zsc zpa zpt.length zpc) 56))
        have HO := Lib.hid (HL.out.o.seq (Off.of_below HB.out))
        have HM := Lib.hid (WrE.below HL.out.m HB.out)
        go_wp2_with (go_at_fn 48; go_loud (refine (HCC.out _ HO.out HM.out).mono ?_; rintro e w2 ⟨rfl, hm, ho⟩; have HM2 := Lib.hid hm; have HO2 := Lib.hid (HO.out.seq ho); clear hm ho))
        go_roundw
        case rel => exact ⟨k + 1, by omega, by go_num, Lib.hid ⟨by rw [HTT.out]; exact HM2.out, HO2.out⟩⟩
        case measure => simp [intOf]; omega
      · obtain rfl : k = xs.length := by omega
        have HE := Lib.hid (show WrP F bw (T0 ++ (form xs.length ++ xs.flatMap (fun z => wOp z.o))) w (.returned (.tuple #[])) wr from ⟨rfl, (by have := HL.out.m; rwa [List.take_of_length_le (Nat.le_refl _)] at this), HL.out.o⟩)
        go_wp2
        go_end0
        exact HE.out
  · obtain rfl : xs = [] := List.eq_nil_of_length_eq_zero (by omega)
    clear hx hn hna hbr hF h h0 hxl
    go_enter Tryz.func47, Tryz.ntmps47
    go_wp2_with (go_at_call 49; go_loud (refine HN.out.mono ?_; rintro e w1 ⟨rfl, hm, ho⟩; have HM1 := Lib.hid hm; have HO1 := Lib.hid ho; clear hm ho))
    refine wp_loop_rounds 1 ?_
    rw [rounds_succ]
    go_wp2
    go_end0
    exact ⟨rfl, (by simpa using HM1.out), HO1.out⟩
theorem wdelta_any {F : Nat → Prop} {bw : Nat} {T0 : List Int} {xs : List Oz} {v : Value} {w : World} (h : WrE F bw T0 w) (hF : ∀ k, w.heap.size ≤ k → F k) (hx : Orow w v xs) (hna : ∀ a n c, v = .slice a n c → Na (fun k => k = bw ∨ F k) a n) (hnz : ∀ z ∈ xs, OpNa (fun k => k = bw ∨ F k) z) (hW : ∀ x ∈ xs, WO x) (hl : (T0 ++ (form xs.length ++ xs.flatMap (fun z => wOp z.o))).length ≤ 700000000) :
    Calls Tryz.prog 21 #[.pointer (some ⟨bw, 0, none⟩), v] w (WrP F bw (T0 ++ (form xs.length ++ xs.flatMap (fun z => wOp z.o))) w) := by
  obtain ⟨G, g, W0, ⟨hg, hW0⟩, hW2, hGS, hCB, hEND, hOFF, hGF, hGg⟩ := clo_frame h hF #[.pointer (some ⟨bw, 0, none⟩)] 65
  have hcb := hCB W0 (Off.refl _ _)
  have hlt := h.lt
  have hb0 : Below w.heap.size w W0 := hW0 ▸ kbelow_one w _
  have HL := Lib.hid (wlistO hW2 (hGS W0 (Off.refl _ _)) (hcb.cell 0) (by omega) hGg (hx.below hb0) (fun a n c e => (hna a n c e).mono (fun k hk => hk.elim .inl (fun q => .inr (hGF k q)))) (fun z hz => (hnz z hz).mono (fun k hk => hk.elim .inl (fun q => .inr (hGF k q)))) hW hl)
  have HEND := Lib.hid (fun e W ys => hEND e W ys)
  have c0 := hcb.cell 0
  obtain ⟨a, c, rfl⟩ := hx.row.shape
  clear h hF hx hna hnz hW hl hW2 hGS hCB hEND hOFF hGF hGg hcb hlt hb0
  go_enter Tryz.func21, Tryz.ntmps21
  go_wp2_with (go_at_call 47; go_loud (refine HL.out.mono ?_; rintro e w1 hq; have HQ := Lib.hid hq; obtain ⟨rfl, -, -⟩ := hq))
  go_end0
  exact HEND.out _ _ _ HQ.out

end Go.Proofs.YtohgopibimgjfaaGreat

/- Q17: the program's Encode -/
namespace Go.Proofs.YtohgopibimgjfaaGreat
open Go.RowKit
set_option linter.unusedVariables false
set_option maxRecDepth 100000

/-- What is written is what the bytes are. -/
theorem wvl_vc {v : Vl} (h : VC v) : wVl v = eVl v := by
  have h1 := h.1
  unfold wVl eVl wVal eVal
  by_cases k1 : v.k.toNat = 1 ∨ v.k.toNat = 2
  · rw [if_pos k1, if_pos k1]
  rw [if_neg k1, if_neg k1]
  by_cases k3 : v.k.toNat = 3
  · rw [if_pos k3, if_pos k3]
  · rw [if_neg k3, if_neg k3, if_pos (by omega)]
theorem wvl_gone {v : Vl} (h : v = zV ∨ VC v) : wVl v = eGone v := by
  rcases h with rfl | h
  · rfl
  · have h1 := h.1
    rw [wvl_vc h]
    unfold eVl eGone
    rw [if_neg (by omega)]
theorem watt_ak {a : Att} (h : AK a) : wAtt a = eAtt a := by unfold wAtt eAtt; rw [wvl_vc h.2]
theorem wchg_gk {c : Chg} (h : GK c) : wChg c = eChg c := by
  unfold wChg eChg
  rw [wvl_gone]
  have h2 := h.2
  cases hg : c.g with
  | true => rw [hg, if_pos rfl] at h2; exact .inl h2
  | false => rw [hg, if_neg (by simp)] at h2; exact .inr h2
theorem flat_eq {α : Type} {f g : α → List Int} : ∀ {l : List α}, (∀ x ∈ l, f x = g x) → l.flatMap f = l.flatMap g
  | [], _ => rfl
  | x :: r, h => by rw [List.flatMap_cons, List.flatMap_cons, h x (List.mem_cons_self ..), flat_eq (fun y hy => h y (List.mem_cons_of_mem _ hy))]
theorem wop_ok {M : Nat} {o : Opn} (h : OK M o) : wOp o = eOp o := by
  have hk := h.k
  unfold wOp eOp eKind
  unfold OK KK at h
  by_cases k1 : o.k.toNat = 1
  · rw [if_pos k1] at h
    rw [if_pos k1, if_pos k1]
    unfold wPatch ePatch
    rw [flat_eq (fun c hc => wchg_gk (h.2.2.2.2.2 c hc))]
  rw [if_neg k1] at h
  rw [if_neg k1, if_neg k1]
  by_cases k2 : o.k.toNat = 2
  · rw [if_pos k2] at h
    rw [if_pos k2, if_pos k2]
    unfold wSet eSet
    rw [flat_eq (fun c hc => watt_ak (h.2.2.2.2.2 c hc))]
  · rw [if_neg k2, if_neg k2]
theorem wops_ok {M : Nat} {zs : List Oz} (h : XK M (zs.map Oz.o)) : form zs.length ++ zs.flatMap (fun z => wOp z.o) = encX (zs.map Oz.o) := by
  unfold encX
  rw [List.length_map, List.flatMap_map, flat_eq (fun z hz => wop_ok (h.2 z.o (List.mem_map_of_mem hz)))]
theorem wv_of {v : Vl} (h : VC v) (hs : v.s.size ≤ 1048576) : WV v := by
  obtain ⟨h1, h2, h3⟩ := vc_rng h
  have h4 := h.1
  exact ⟨⟨h1.1, by omega⟩, h2, h3, hs⟩
theorem wv_zV : WV zV := ⟨⟨by decide, by decide⟩, ⟨by decide, by decide⟩, ⟨by decide, by decide⟩, Nat.zero_le _⟩
theorem wo_of {M : Nat} {z : Oz} (h : OK M z.o) (he : EOk z) : WO z := by
  have hk := h.k
  have ek : z.o.k = z.k := rfl
  have es : z.o.st = z.st := rfl
  have ep : z.o.pt = z.pt := rfl
  unfold OK KK at h
  refine ⟨he.k, he.n, fun k2 => ⟨(he.r k2).1, (he.r k2).2.2⟩, fun a ha => ?_, fun c hc => ?_⟩
  · by_cases k1 : z.o.k.toNat = 1
    · rw [if_pos k1] at h
      rw [← es, h.2.2.2.1] at ha; cases ha
    rw [if_neg k1] at h
    by_cases k2 : z.o.k.toNat = 2
    · rw [if_pos k2] at h
      have hk := h.2.2.2.2.2 a ha
      exact ⟨⟨hk.1.1, by have := hk.1.2; omega⟩, wv_of hk.2 (he.s a ha).2.2⟩
    rw [if_neg k2] at h
    by_cases k3 : z.o.k.toNat = 3
    · rw [if_pos k3] at h
      rw [← es, h.2.2.2.1] at ha; cases ha
    · rw [if_neg k3] at h; exact h.elim
  · by_cases k1 : z.o.k.toNat = 1
    · rw [if_pos k1] at h
      have hk := h.2.2.2.2.2 c hc
      refine ⟨⟨hk.1.1, by have := hk.1.2; omega⟩, ?_⟩
      have h2 := hk.2
      cases hg : c.g with
      | true => rw [hg, if_pos rfl] at h2; rw [h2]; exact wv_zV
      | false => rw [hg, if_neg (by simp)] at h2; exact wv_of h2 (he.p c hc).2.2.1
    rw [if_neg k1] at h
    by_cases k2 : z.o.k.toNat = 2
    · rw [if_pos k2] at h
      rw [← ep, h.2.2.2.1] at hc; cases hc
    rw [if_neg k2] at h
    by_cases k3 : z.o.k.toNat = 3
    · rw [if_pos k3] at h
      rw [← ep, h.2.2.2.2] at hc; cases hc
    · rw [if_neg k3] at h; exact h.elim
/-- Rows of the call's own lie apart from what is written. -/
theorem own_na {S : Nat → Prop} {W : World} {B m n n' : Nat} {e : TypeId} {a : Option Addr} {c : Nat} {xs : List Value} (h : W.ownsRow B e m (.slice a n c) n' xs) (hS : ∀ k, (Value.slice a n c).ownBlock = some k → ¬ S k) : Na S a n := fun h0 x hx hh => by
  obtain ⟨a', c', e1, ha, -⟩ := own_shape h
  injection e1 with e1 e2 e3
  subst e1
  rcases ha with rfl | ⟨g, rfl⟩
  · cases hx
  · injection hx with hx
    subst hx
    exact hS g rfl hh
theorem oown_na {S F : Nat → Prop} {W : World} {v : Value} {zs : List Oz} (h : Oown F W v zs) (hS : ∀ k, F k → k < W.heap.size → ¬ S k) : (∀ a n c, v = .slice a n c → Na S a n) ∧ ∀ z ∈ zs, OpNa S z := by
  refine ⟨fun a n c e => ?_, fun z hz => ?_⟩
  · subst e
    exact own_na h.row (fun k hk => hS k (h.f k hk) (own_lt7 h.row hk))
  · have ho := h.own z hz
    exact ⟨own_na ho.r (fun k hk => hS k (ho.fr k hk) (own_lt7 ho.r hk)), own_na ho.s (fun k hk => hS k (ho.fs k hk) (own_lt7 ho.s hk)), own_na ho.p (fun k hk => hS k (ho.fp k hk) (own_lt7 ho.p hk))⟩
theorem own_base0 {B m n : Nat} {e : TypeId} {v : Value} {xs : List Value} {W : World} (h : W.ownsRow 0 e m v n xs) (hf : ∀ k, v.ownBlock = some k → B ≤ k) : W.ownsRow B e m v n xs := by
  refine ⟨h.1, ?_⟩
  rcases h.2 with h | ⟨g, cap, cur, e, hB, r⟩
  · exact .inl h
  · exact .inr ⟨g, cap, cur, e, hf g (by rw [e]; rfl), r⟩
/-- What the writer is told, behind Of. -/
theorem enc_go {ks : List Key} {zs ys : List Oz} {W1 w2 : World} {v2 : Value} {bw : Nat} (hd : Din ks zs) (hm : mayX ks (zs.map Oz.o) = 0) (hy : ys.map Oz.o = formO (zs.map Oz.o)) (ho : Oown (fun g => W1.heap.size ≤ g) w2 v2 ys) (hb : Below W1.heap.size W1 w2) (hcb : Cb bw 67 #[.slice none 0 0] W1) (hsz : W1.heap.size = bw + 1) :
    form ys.length ++ ys.flatMap (fun z => wOp z.o) = encX (formO (zs.map Oz.o)) ∧ Calls Tryz.prog 21 #[.pointer (some ⟨bw, 0, none⟩), v2] w2 (WrP (fun k => w2.heap.size ≤ k) bw ([] ++ (form ys.length ++ ys.flatMap (fun z => wOp z.o))) w2) := by
  have hmy : mayX ks (ys.map Oz.o) = 0 := by rw [hy]; exact may_form hm
  have hwy : wws (ys.map Oz.o) ≤ 1048576 := by
    rw [hy]
    have h1 := wws_form (zs.map Oz.o)
    have h2 := wws_tot zs
    have := hd.t
    omega
  have hsy : ∀ p ∈ ys.map Oz.o, Sw p := by rw [hy]; exact form_sw hm hd.sw
  have hlen := (wws_len (ys.map Oz.o)).1
  have hxk := may_xk (M := 1073741824) (by omega) hd.g (xs := ys.map Oz.o) (by omega) hmy hsy
  have hle := encX_len (M := 1073741824) (by omega) hxk
  have hek := eok_of hd.g hmy hsy hwy
  have hwo : ∀ z ∈ ys, WO z := fun z hz => wo_of (hxk.2 z.o (List.mem_map_of_mem hz)) (hek z hz)
  have hws := wops_ok hxk
  have hs2 := hb.size
  obtain ⟨n1, n2⟩ := oown_na (S := fun k => k = bw ∨ w2.heap.size ≤ k) ho (fun k hk hkl hh => by omega)
  refine ⟨by rw [hws, hy], ?_⟩
  refine wdelta_any (T0 := []) ⟨none, 0, hcb.below hb, World.ownsRow_nil _ _ _ _, fun k hk => by simp [Value.ownBlock] at hk, by omega⟩ (fun k hk => hk) ho.orow n1 n2 hwo ?_
  rw [List.nil_append, hws]
  omega
set_option maxHeartbeats 8000000 in
theorem penc_all : PEnc := by
  intro sv u ks zs w hs hx hd
  have HM := Lib.hid (pmay_any sv u ks zs w hs hx hd.w)
  have HX := Lib.hid (fun W (hb : Below w.heap.size w W) => hx.below hb)
  obtain ⟨m, hm⟩ : ∃ m, mayX ks (zs.map Oz.o) = m := ⟨_, rfl⟩
  rw [hm] at HM
  by_cases h0 : m = 0
  · subst h0
    have HMO := Lib.hid hm
    have HD := Lib.hid hd
    clear hs hx hd hm
    go_enter Tryz.func12, Tryz.ntmps12
    go_upto_region 5 with (go_at_call 20; go_loud (refine HM.out.mono ?_; rintro e w1 ⟨rfl, hb⟩; have HB1 := Lib.hid hb; clear hb))
    have hbw := kbelow_one w1 (.cells #[.slice none 0 0] 67)
    have hcb := cb_new w1 67 #[.slice none 0 0]
    have HBW := Lib.hid (below_add HB1.out hbw HB1.out.size)
    have hsz : (w1.alloc (.cells #[.slice none 0 0] 67)).heap.size = w1.heap.size + 1 := by simp
    generalize w1.alloc (.cells #[.slice none 0 0] 67) = W1 at *
    have HOF := Lib.hid (of_any u zs W1 (HX.out W1 HBW.out) HD.out.l.i)
    generalize hbb : w1.heap.size = bw at *
    have hbw1 : w.heap.size ≤ bw := by rw [← hbb]; exact HB1.out.size
    have HCB := Lib.hid hcb
    have HSZ := Lib.hid hsz
    have HLW := Lib.hid hbw1
    clear hbw hcb hsz hbw1 hbb
    go_wp2_with (first
      | (go_at_call 18; go_loud (refine HOF.out.mono ?_; rintro e w2 ⟨v2, ys, rfl, hy, ho, hb⟩; have HO2 := Lib.hid ho; have HB2 := Lib.hid hb; have HY := Lib.hid hy; clear hy ho hb; obtain ⟨fw, HL⟩ := enc_go HD.out HMO.out HY.out HO2.out HB2.out HCB.out HSZ.out; have HLL := Lib.hid HL; clear HL))
      | (go_at_call 21; go_loud (refine HLL.out.mono ?_; rintro e w3 ⟨rfl, hm, ho⟩; obtain ⟨a3, c3, hw3⟩ := hm; have HW3 := Lib.hid hw3; have HO3 := Lib.hid ho; have hc3 := hw3.c0; clear hw3 ho)))
    go_ret2
    have hle : ∀ k, (k = bw ∨ w2.heap.size ≤ k) → w.heap.size ≤ k := fun k hk => by
      have h1 := HLW.out
      have h2 := HB2.out.size
      have h3 := HSZ.out
      rcases hk with rfl | hk <;> omega
    have hown := HW3.out.own
    have hcx : form ys.length ++ ys.flatMap (fun z => wOp z.o) = encX (formO (zs.map Oz.o)) := fw
    refine ⟨(below_add HBW.out HB2.out HBW.out.size).trans (HO3.out.below hle (below_add HBW.out HB2.out HBW.out.size).size), .inl ⟨HMO.out, _, rfl, ?_⟩⟩
    rw [← hcx]
    simp only [List.nil_append] at hown
    exact own_base0 hown (fun k hk => hle k (.inr (HW3.out.f k hk)))
  · have e1 : (m != 0) = true := by simpa using h0
    have HF := Lib.hid (show mayX ks (zs.map Oz.o) ≠ 0 ∧ mayX ks (zs.map Oz.o) = m from ⟨by rw [hm]; exact h0, hm⟩)
    clear hs hx hd hm HX h0
    go_enter Tryz.func12, Tryz.ntmps12
    go_wp2_with (go_at_call 20; go_loud (refine HM.out.mono ?_; rintro e w1 ⟨rfl, hb⟩; have HB1 := Lib.hid hb; clear hb))
    go_ret2
    refine ⟨HB1.out, .inr ⟨HF.out.1, ?_⟩⟩
    rw [HF.out.2]
    rfl
end Go.Proofs.YtohgopibimgjfaaGreat

/- Q18: bytes that came in; the laws' walks -/
namespace Go.Proofs.YtohgopibimgjfaaGreat
open Go.RowKit
set_option linter.unusedVariables false
set_option maxRecDepth 100000
open Go.ChangeShapes Go.WideShapes Go.ChangeAt
section
variable {H : Type} {enc : TypeId × Value → H} {w : World} {base : Nat} {spare : Nat → Bool} {held : Bool}
theorem u8_cells : Tryz.prog.cellsOf 5 = 1 := by kernel_rfl
theorem open_bytesN {n : Nat} {v : Value} {x : DataW H × List MemPlace} (h : DataW.trod enc Tryz.prog w base spare held n 31 [v] = some x) : ∃ xs, Ints .u8 w v xs ∧ Okb xs := by
  obtain ⟨xs, h1, h2, -⟩ := open_rows u8C (fun i => (Lit.int .u8 i).wf = true) (fun i => (.lit (.int .u8 i) : DataW H)) Tryz.underlying31 u8_cells (fun {n cs y} hy => by
    obtain ⟨a0, e0, e1, wf⟩ := DataW.trod_int Tryz.underlying5 hy
    exact ⟨a0, wf, e0, by rw [e1]⟩) h
  refine ⟨xs, ?_, fun b hb => wf_u8 (h2 b hb)⟩
  rcases h1 with h1 | ⟨b, off, cap, hv, h0, h1, h2, h3⟩
  · exact .inl h1
  · refine .inr ⟨b, off, cap, hv, h0, h1, h2, fun j hj => h3 j _ ?_⟩
    rw [fl_u8]
    simp [List.getD, hj]
end
end Go.Proofs.YtohgopibimgjfaaGreat
