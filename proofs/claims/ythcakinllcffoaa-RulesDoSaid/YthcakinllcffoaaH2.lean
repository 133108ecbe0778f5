
import Derived.Test.YthcakinllcffoaaH1
import Derived.Deep.WholeRow
import Derived.Laws.Rows
import Derived.Laws.Tables
import Derived.Laws.CopyOwn
/- H2: nine flags by value; of which groups a patch sets a key -/
namespace Go.Proofs.Ythcakinllcffoaa
open Go.RowKit
set_option linter.unusedVariables false

/-- A whole row out of its block, at an operation that is wanted, whatever it is guarded by. -/
theorem wpList_load_roww {P : Program} {ops : Array Oper} {rest : List Oper} {o : Oper} {a : Act} {w : World} {Q : Exit → Act → World → Prop} (ty : TypeId) (x : Operand) (ho : o.op = .load ty x)
    (g : Nat) (hx : a.eval x = .pointer (some ⟨g, 0, none⟩)) (hw : Region.wanted o (yielded ops a.tmps) = true) (t : TypeId) (cs : Array Value) (fr : Nat × Nat) (d : TypeDesc) (hg : w.heap[g]? = some (.cells cs t fr))
    (hu : P.underlying ty = some d) (hd : (match d with | .struct _ | .array _ _ => true | _ => false) = true) (hi : (P.info? ty).map (·.size) = some cs.size)
    (h : wpList P ops Q rest (a.put o.dst (.agg cs)) w) : wpList P ops Q (o :: rest) a w :=
  wpList_step fun K hK => by
    rw [if_pos hw]
    exact wp_load_row ty x ho g hx t cs fr d hg hu hd hi (hK _ _ h)

/-- The flags of the groups in x. -/
def gB (x : List Int) : List Bool := (List.range 9).map fun g : Nat => decide ((g : Int) ∈ x)
def rowB (l : List Bool) : Array Value := (l.map Value.bool).toArray
theorem gB_len (x : List Int) : (gB x).length = 9 := by simp [gB]
theorem rowB_size (l : List Bool) : (rowB l).size = l.length := by simp [rowB]
theorem rowB_one (l : List Bool) : (rowB l).all (·.oneCell') = true := by
  rw [Array.all_eq_true]
  intro i hi
  simp [rowB]
  rfl
theorem gB_get {x : List Int} {g : Nat} (h : g < 9) : (rowB (gB x))[g]? = some (.bool (decide ((g : Int) ∈ x))) := by
  simp [rowB, gB, h]
theorem gB_set {x : List Int} {g : Nat} (h : g < 9) : (rowB (gB x)).setIfInBounds g (.bool true) = rowB (gB (x ++ [(g : Int)])) := by
  apply Array.toList_inj.1
  apply List.ext_getElem (by simp [rowB, gB])
  intro i h1 h2
  simp [rowB, gB] at h1 h2
  simp only [rowB, gB, Array.toList_setIfInBounds, List.getElem_set, List.getElem_map, List.getElem_range, List.mem_append, List.mem_singleton]
  by_cases e : g = i
  · subst e; simp
  · rw [if_neg e]
    have : ¬ (i : Int) = (g : Int) := by omega
    simp [this]
/-- Block b holds the flags of the groups in x. -/
def FAt (b : Nat) (x : List Int) (w : World) : Prop := w.heap[b]? = some (.cells (rowB (gB x)) 71 (0, 0))
theorem FAt.cell {b g : Nat} {x : List Int} {w : World} (h : FAt b x w) (hg : g < 9) : w.cell? ⟨b, g, none⟩ = some (.bool (decide ((g : Int) ∈ x))) := by
  rw [cell_of_row w b g _ _ (0, 0) h]
  exact gB_get hg
theorem FAt.frozen {b g : Nat} {x : List Int} {w : World} (h : FAt b x w) : w.frozen? ⟨b, g, none⟩ = false := frozen_of_row w b g _ _ h
theorem FAt.lt {b : Nat} {x : List Int} {w : World} (h : FAt b x w) : b < w.heap.size := (Array.getElem?_eq_some_iff.1 h).1
theorem FAt.below {B b : Nat} {x : List Int} {w w' : World} (h : FAt b x w) (hb : Below B w w') (hlt : b < B) : FAt b x w' := (hb.block b hlt).trans h
theorem FAt.alloc {b : Nat} {x : List Int} {w : World} (h : FAt b x w) (o : Obj) : FAt b x (w.alloc o) := h.below ((Below.refl w.heap.size w).alloc (Nat.le_refl _) o) h.lt
theorem FAt.set {b g : Nat} {x : List Int} {w : World} (h : FAt b x w) (hg : g < 9) : FAt b (x ++ [(g : Int)]) (w.setCell ⟨b, g, none⟩ (.bool true)) := by
  show (w.setCell ⟨b, g, none⟩ _).heap[b]? = _
  rw [heap_setCell_same w b g _ _ _ h, gB_set hg]
theorem FAt.setRow {b : Nat} {x y : List Int} {w : World} (h : FAt b x w) : FAt b y (w.setRow b (rowB (gB y))) := setRow_heap w b _ _ _ _ h
theorem fat_new (w : World) (x : List Int) : FAt w.heap.size x (w.alloc (.cells (rowB (gB x)) 71)) := heap_alloc_new w _
theorem info_flags (x : List Int) : (Try.prog.info? 71).map (·.size) = some (rowB (gB x)).size := by
  rw [rowB_size, gB_len]; kernel_rfl

/-- The loop over a patch: k changes are behind. -/
structure GRel (ks : List Key) (p : List Chg) (w : World) (k : Nat) (wr : World) : Prop where
  one : (setsG ks (p.take k)).Nodup
  at_ : FAt w.heap.size (setsG ks (p.take k)) wr
  bel : Below w.heap.size w wr
theorem GRel.init (ks : List Key) (p : List Chg) (w : World) : GRel ks p w 0 (w.alloc (.cells (rowB (gB [])) 71)) :=
  ⟨List.nodup_nil, fat_new w [], (Below.refl _ _).alloc (Nat.le_refl _) _⟩
theorem GRel.skip {ks : List Key} {p : List Chg} {w wr w' : World} {k : Nat} (h : GRel ks p w k wr) (hk : k < p.length) (hs : setG ks p[k] = none) (hb : Below wr.heap.size wr w') : GRel ks p w (k + 1) w' := by
  refine ⟨?_, ?_, below_add h.bel hb h.bel.size⟩
  · rw [setsG_skip hk hs]; exact h.one
  · rw [setsG_skip hk hs]; exact h.at_.below hb h.at_.lt
theorem GRel.more {ks : List Key} {p : List Chg} {w wr w' : World} {k g : Nat} (h : GRel ks p w k wr) (hk : k < p.length) (hs : setG ks p[k] = some (g : Int)) (hg : g < 9) (hm : (g : Int) ∉ setsG ks (p.take k)) (hb : Below wr.heap.size wr w') :
    GRel ks p w (k + 1) (w'.setCell ⟨w.heap.size, g, none⟩ (.bool true)) := by
  refine ⟨setsG_good hk hs hm h.one, ?_, (below_add h.bel hb h.bel.size).setCell (by simp) _⟩
  rw [setsG_more hk hs]; exact (h.at_.below hb h.at_.lt).set hg
/-- What groupsSet answers. -/
def GPost (ks : List Key) (p : List Chg) (w : World) (e : Ending) (w' : World) : Prop :=
  Below w.heap.size w w' ∧ ∃ x, e = .returned (.tuple #[.agg (rowB (gB x)), .int .i64 (cE ks p)]) ∧ (cE ks p = 0 → x = setsG ks p)
theorem results_groups {W : World} {b : Nat} {x : List Int} (h : FAt b x W) (tm : Array Value) (h4 : tm.getD 4 undef = .pointer (some ⟨b, 0, none⟩)) {e : Int} (h5 : tm.getD 5 undef = .int .i64 e) :
    (results Try.f29 tm).run Try.prog W = .ok (.tuple #[.agg (rowB (gB x)), .int .i64 e]) W := by
  have r4 := run_loadVar_row (P := Try.prog) W b _ 71 (rowB (gB x)) _ _ h Try.underlying71 rfl (info_flags x)
  have h4' : tm[4]?.getD undef = .pointer (some ⟨b, 0, none⟩) := by simpa using h4
  have h5' : tm[5]?.getD undef = .int .i64 e := by simpa using h5
  simp [results, Try.results29, h4', h5', asAddr, r4]
theorem GRel.end_ {ks : List Key} {p : List Chg} {w wr : World} (h : GRel ks p w p.length wr) : cE ks p = 0 ∧ GPost ks p w (.returned (.tuple #[.agg (rowB (gB (setsG ks p))), .int .i64 0])) (wr.setRow w.heap.size (rowB (gB (setsG ks p)))) ∧ FAt w.heap.size (setsG ks p) wr := by
  obtain ⟨h1, h2, h3⟩ := h
  rw [tend] at h1 h2
  have e := (cE_yes h1).1
  exact ⟨e, ⟨below_setRow h3 (Nat.le_refl _) _, _, by rw [e], fun _ => rfl⟩, h2⟩
theorem GRel.bad {ks : List Key} {p : List Chg} {w wr w' : World} {k g : Nat} (h : GRel ks p w k wr) (hk : k < p.length) (hs : setG ks p[k] = some (g : Int)) (hm : (g : Int) ∈ setsG ks (p.take k)) (hb : Below wr.heap.size wr w') :
    GPost ks p w (.returned (.tuple #[.agg (rowB (gB (setsG ks (p.take k)))), .int .i64 3])) (w'.setRow w.heap.size (rowB (gB (setsG ks (p.take k))))) ∧ FAt w.heap.size (setsG ks (p.take k)) w' := by
  have e := (cE_no (setsG_bad hk hs hm)).1
  exact ⟨⟨below_setRow (below_add h.bel hb h.bel.size) (Nat.le_refl _) _, _, by rw [e], fun h => by rw [e] at h; cases h⟩, h.at_.below hb h.at_.lt⟩

set_option maxRecDepth 100000 in
theorem groups_none (v u : Value) (ks : List Key) (w : World) (hp : Crow w u []) :
    Calls Try.prog 29 #[v, u] w (GPost ks [] w) := by
  obtain ⟨a, cap, rfl⟩ := hp.shape
  clear hp
  have HE := Lib.hid (GRel.init ks [] w).end_
  go_enter Try.func29, Try.ntmps29
  go_wp2
  refine wp_loop_rounds 1 ?_
  rw [rounds_succ]
  go_wp2_with (first
    | (refine wpList_load_roww 71 _ rfl _ rfl (by rfl) _ _ _ _ HE.out.2.2 Try.underlying71 rfl (info_flags _) ?_)
    | (refine wpList_store_row rfl 71 _ _ rfl _ (rowB (gB _)) rfl rfl _ _ HE.out.2.2 (info_flags _) rfl (rowB_one _) ?_))
  refine bodyPost_ret (results_groups HE.out.2.2.setRow _ rfl rfl) rfl HE.out.2.1

set_option maxRecDepth 100000 in
set_option maxHeartbeats 2000000 in
theorem groups_some (v u : Value) (ks : List Key) (p : List Chg) (w : World) (hs : Sch w v ks) (hp : Crow w u p) (hW : ∀ c ∈ p, ChgW c) (h0 : 0 < p.length) :
    Calls Try.prog 29 #[v, u] w (GPost ks p w) := by
  obtain ⟨a, cap, rfl⟩ := hp.shape
  obtain ⟨b, off, rfl, -, -, -, hbl, hat⟩ := hp.opn h0
  have hlen := hp.len
  clear hp
  have HAT := Lib.hid hat
  have HS := Lib.hid hs
  have HI := Lib.hid (GRel.init ks p w)
  clear hat hs
  go_enter Try.func29, Try.ntmps29
  go_wp2
  go_loopw [12] (fun i wr => ∃ k : Nat, k ≤ p.length ∧ i = .int .i64 k ∧ Hid (GRel ks p w k wr)) (fun i _ => p.length - (intOf i).toNat)
  case atStart => exact ⟨0, Nat.zero_le _, rfl, HI⟩
  case round =>
    obtain ⟨k, hk, rfl, HR⟩ := hrel
    by_cases hlt : k < p.length
    · obtain ⟨c0, c1, c2, c3, c4, c5⟩ := (HAT.out k hlt).below HR.out.bel hbl
      have hwf := (hW p[k] (List.getElem_mem hlt)).key
      have HF := Lib.hid (fun W (hb : Below wr.heap.size wr W) => find_any v ks p[k].key W ((HS.out.below HR.out.bel (Nat.le_refl _)).below hb (Nat.le_refl _)) hwf)
      have hr := grpN_range HS.out.1 p[k].key
      have Hskip : Hid (∀ w', (p[k].g = true ∨ grpN ks p[k].key = 0) → Below wr.heap.size wr w' → GRel ks p w (k + 1) w') := Lib.hid fun w' h hb => HR.out.skip hlt (if_pos h) hb
      have Hmore : Hid (∀ (g : Nat) w', p[k].g = false → grpN ks p[k].key = (g : Int) → (g : Int) ≠ 0 → g < 9 → (g : Int) ∉ setsG ks (p.take k) → Below wr.heap.size wr w' → GRel ks p w (k + 1) (w'.setCell ⟨w.heap.size, g, none⟩ (.bool true))) := Lib.hid fun g w' h1 h2 h3 h4 h5 hb => HR.out.more hlt (setG_some.2 ⟨h1, h2, h3⟩) h4 h5 hb
      have Hbad : Hid (∀ (g : Nat) w', p[k].g = false → grpN ks p[k].key = (g : Int) → (g : Int) ≠ 0 → (g : Int) ∈ setsG ks (p.take k) → Below wr.heap.size wr w' →
        GPost ks p w (.returned (.tuple #[.agg (rowB (gB (setsG ks (p.take k)))), .int .i64 3])) (w'.setRow w.heap.size (rowB (gB (setsG ks (p.take k))))) ∧ FAt w.heap.size (setsG ks (p.take k)) w') := Lib.hid fun g w' h1 h2 h3 h4 hb => HR.out.bad hlt (setG_some.2 ⟨h1, h2, h3⟩) h4 hb
      have HA := Lib.hid (fun W (hb : Below wr.heap.size wr W) => HR.out.at_.below hb HR.out.at_.lt)
      have hbs := HR.out.at_.lt
      unfold grpN at hr Hskip Hmore Hbad
      unfold fndV at HF
      clear hwf HR
      generalize setsG ks (p.take k) = G at *
      generalize p[k] = c at *
      generalize (fnd ks c.key).getD noKey = kk at *
      generalize (fnd ks c.key).isSome = bb at *
      obtain ⟨x1, x2, x3, x4, x5, x6⟩ := c
      obtain ⟨y1, y2, y3, y4, y5, y6⟩ := kk
      simp only at c0 c1 c2 c3 c4 c5 hr HF Hskip Hmore Hbad
      have hB0 : Below wr.heap.size wr (wr.alloc (.cells #[.int .i64 x1, .bool x2, .int .u8 x3, .int .i64 x4, .int .u64 x5, .string x6] 49)) := (Below.refl _ _).alloc (Nat.le_refl _) _
      have hX := CBox.box ⟨x1, x2, x3, x4, x5, x6⟩ wr 49
      have HX := Lib.hid hX
      have HB0 := Lib.hid hB0
      clear hX hB0
      by_cases q1 : x2 = true
      · subst q1
        go_wp2_with (go_at_call 27; ((with_reducible refine (HF.out _ HB0.out).mono ?_); rintro e w1 ⟨rfl, hb1⟩; have HB1 := Lib.hid (below_add HB0.out hb1 (by simp)); obtain ⟨d0, d1, d2, d3, d4, d5⟩ := (HX.out.below hb1 (by simp)).below ((Below.refl w1.heap.size w1).alloc (Nat.le_refl _) (.cells #[.int .i64 y1, .bool y2, .int .u8 y3, .bool y4, .bool y5, .int .i64 y6] 59)) (by have := hb1.size; simp at this; omega); clear hb1))
        go_roundw
        case rel => exact ⟨k + 1, by omega, by go_num, Lib.hid (Hskip.out _ (by simp) (below_add HB1.out ((Below.refl _ _).alloc (Nat.le_refl _) _) HB1.out.size))⟩
        case measure => simp [intOf]; omega
      · obtain rfl : x2 = false := by cases x2 <;> simp_all
        clear q1
        by_cases q2 : y6 = 0
        · subst q2
          go_wp2_with (go_at_call 27; ((with_reducible refine (HF.out _ HB0.out).mono ?_); rintro e w1 ⟨rfl, hb1⟩; have HB1 := Lib.hid (below_add HB0.out hb1 (by simp)); obtain ⟨d0, d1, d2, d3, d4, d5⟩ := (HX.out.below hb1 (by simp)).below ((Below.refl w1.heap.size w1).alloc (Nat.le_refl _) (.cells #[.int .i64 y1, .bool y2, .int .u8 y3, .bool y4, .bool y5, .int .i64 0] 59)) (by have := hb1.size; simp at this; omega); clear hb1))
          go_roundw
          case rel => exact ⟨k + 1, by omega, by go_num, Lib.hid (Hskip.out _ (by simp) (below_add HB1.out ((Below.refl _ _).alloc (Nat.le_refl _) _) HB1.out.size))⟩
          case measure => simp [intOf]; omega
        · obtain ⟨n, rfl⟩ : ∃ n : Nat, y6 = (n : Int) := ⟨y6.toNat, by omega⟩
          have n9 : n < 9 := by omega
          have i1 : (n : Int) < 9 := by omega
          have i0 : (0 : Int) ≤ (n : Int) := by omega
          have e2 : ((n : Int) == 0) = false := by simpa using q2
          by_cases q3 : (n : Int) ∈ G
          · have HQ := Lib.hid q3
            have HQ2 := Lib.hid q2
            clear q2
            go_wp2_with (first
              | (go_at_call 27; ((with_reducible refine (HF.out _ HB0.out).mono ?_); rintro e w1 ⟨rfl, hb1⟩; have HB1 := Lib.hid (below_add HB0.out hb1 (by simp)); obtain ⟨d0, d1, d2, d3, d4, d5⟩ := (HX.out.below hb1 (by simp)).below ((Below.refl w1.heap.size w1).alloc (Nat.le_refl _) (.cells #[.int .i64 y1, .bool y2, .int .u8 y3, .bool y4, .bool y5, .int .i64 (n : Int)] 59)) (by have := hb1.size; simp at this; omega); have HB2 := Lib.hid (below_add HB1.out ((Below.refl w1.heap.size w1).alloc (Nat.le_refl _) (.cells #[.int .i64 y1, .bool y2, .int .u8 y3, .bool y4, .bool y5, .int .i64 (n : Int)] 59)) HB1.out.size); have hq := (HA.out _ HB2.out).cell n9; rw [decide_eq_true q3] at hq; have HW := Lib.hid (Hbad.out n _ (by simp) (by simp) HQ2.out HQ.out HB2.out); clear hb1 q3))
              | (refine wpList_load_roww 71 _ rfl _ rfl (by rfl) _ _ _ _ HW.out.2 Try.underlying71 rfl (info_flags _) ?_)
              | (refine wpList_store_row rfl 71 _ _ rfl _ (rowB (gB _)) rfl rfl _ _ HW.out.2 (info_flags _) rfl (rowB_one _) ?_))
            refine bodyPost_ret (results_groups HW.out.2.setRow _ rfl rfl) rfl HW.out.1
          · have HQ := Lib.hid q3
            have HQ2 := Lib.hid q2
            clear q2
            go_wp2_with (go_at_call 27; ((with_reducible refine (HF.out _ HB0.out).mono ?_); rintro e w1 ⟨rfl, hb1⟩; have HB1 := Lib.hid (below_add HB0.out hb1 (by simp)); obtain ⟨d0, d1, d2, d3, d4, d5⟩ := (HX.out.below hb1 (by simp)).below ((Below.refl w1.heap.size w1).alloc (Nat.le_refl _) (.cells #[.int .i64 y1, .bool y2, .int .u8 y3, .bool y4, .bool y5, .int .i64 (n : Int)] 59)) (by have := hb1.size; simp at this; omega); have HB2 := Lib.hid (below_add HB1.out ((Below.refl w1.heap.size w1).alloc (Nat.le_refl _) (.cells #[.int .i64 y1, .bool y2, .int .u8 y3, .bool y4, .bool y5, .int .i64 (n : Int)] 59)) HB1.out.size); have hq := (HA.out _ HB2.out).cell n9; rw [decide_eq_false q3] at hq; have hfz := (HA.out _ HB2.out).frozen (g := n); clear hb1 q3))
            go_roundw
            case rel => exact ⟨k + 1, by omega, by go_num, Lib.hid (Hmore.out n _ (by simp) (by simp) HQ2.out n9 HQ.out HB2.out)⟩
            case measure => simp [intOf]; omega
    · obtain rfl : k = p.length := by omega
      have HE := Lib.hid HR.out.end_
      clear HR
      go_wp2_with (first
        | (refine wpList_load_roww 71 _ rfl _ rfl (by rfl) _ _ _ _ HE.out.2.2 Try.underlying71 rfl (info_flags _) ?_)
        | (refine wpList_store_row rfl 71 _ _ rfl _ (rowB (gB _)) rfl rfl _ _ HE.out.2.2 (info_flags _) rfl (rowB_one _) ?_))
      refine bodyPost_ret (results_groups HE.out.2.2.setRow _ rfl rfl) rfl HE.out.2.1
/-- Of which groups a patch sets a key. -/
theorem groups_any (v u : Value) (ks : List Key) (p : List Chg) (w : World) (hs : Sch w v ks) (hp : Crow w u p) (hW : ∀ c ∈ p, ChgW c) :
    Calls Try.prog 29 #[v, u] w (GPost ks p w) := by
  by_cases h0 : 0 < p.length
  · exact groups_some v u ks p w hs hp hW h0
  · obtain rfl : p = [] := List.eq_nil_of_length_eq_zero (by omega)
    exact groups_none v u ks w hp
end Go.Proofs.Ythcakinllcffoaa
