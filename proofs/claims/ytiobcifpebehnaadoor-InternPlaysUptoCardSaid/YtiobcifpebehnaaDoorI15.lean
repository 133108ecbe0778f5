
import Derived.Test.YtiobcifpebehnaaDoorIC
import Derived.Deep.RegionWith
import Derived.Deep.Cut
import Derived.Carry
import Derived.WideMake
/- I15: New -/
namespace Go.Proofs.YtiobcifpebehnaaDoor
open Go.RowKit
set_option linter.unusedVariables false

theorem text_nil (w : World) : Calls Tryd.prog 29 #[.slice none 0 0] w fun e w' => e = .returned (.string ⟨#[]⟩) ∧ w' = w := by
  have hcv := txt_conv (txt_init w [])
  go_enter Tryd.func29, Tryd.ntmps29
  go_wp2
  refine wp_loop_rounds 1 ?_
  rw [rounds_succ]
  go_wp2
  go_ret
  exact ⟨rfl, rfl⟩

/-- The map of texts with the empty set's. -/
def put0 (W : World) (b : Nat) : World := { W with heap := W.heap.setIfInBounds b (.map #[{ key := .string ⟨#[]⟩, val := .int .i64 0, born := 0 }] 1) }
theorem put0_size (W : World) (b : Nat) : (put0 W b).heap.size = W.heap.size := by simp [put0]
theorem put0_run (W : World) (b : Nat) (hb : W.heap[b]? = some (.map #[] 0)) : (Instr.mapUpdate 80 (.map (some b)) (.string ⟨#[]⟩) (.int .i64 0)).run Tryd.prog W = .ok () (put0 W b) :=
  run_mapUpdate_first (w := W) (P := Tryd.prog) 80 9 3 b 0 ⟨#[]⟩ (.int .i64 0) Tryd.underlying80 Tryd.underlying9 hb
theorem put0_owns (W : World) (b : Nat) (hb : W.heap[b]? = some (.map #[] 0)) : (put0 W b).ownsMap Tryd.prog 9 (plainElem Tryd.prog 3) b 1 ((DataW.map [] : DataW Unit).put (.string []) (.lit (.int .i64 0))) := by
  have h0 : W.ownsMap Tryd.prog 9 (plainElem (H := Unit) Tryd.prog 3) b 0 (.map []) := by
    obtain ⟨es, clock, h1, h2, h3, h4⟩ := World.ownsMap_made (H := Unit) W Tryd.prog 9 (plainElem Tryd.prog 3)
    have e := h1
    rw [heap_alloc_new] at e
    injection e with e
    injection e with e1 e2
    subst e1 e2
    exact ⟨_, _, hb, h2, h3, h4⟩
  obtain ⟨w', hr, ho, -⟩ := h0.update keyedStr Tryd.underlying80 (by decide) (strKey (s := []) (by simp)) (plainElem_int Tryd.underlying3 (a := 0) (by decide))
  have e := put0_run W b hb
  rw [show (⟨([] : List UInt8).toArray⟩ : ByteArray) = ⟨#[]⟩ from rfl] at hr
  rw [hr] at e
  injection e with _ e
  rw [← e]
  exact ho
theorem put0_other {W : World} {b k : Nat} {r : Option Obj} (hk : k ≠ b) (h : W.heap[k]? = r) : (put0 W b).heap[k]? = r := by
  unfold put0
  simp only [Array.getElem?_setIfInBounds]
  rw [if_neg (fun e => hk e.symm)]
  exact h
theorem put0_below {B : Nat} {a W : World} {b : Nat} (h : Below B a W) (hb : B ≤ b) : Below B a (put0 W b) :=
  h.trans ⟨rfl, rfl, rfl, by rw [put0_size]; exact Nat.le_refl _, fun k hk => put0_other (by omega) rfl⟩
theorem make_held (W : World) : (Instr.makeSlice 81 (.int .i64 1) (.int .i64 1)).run Tryd.prog W = .ok (.slice (some ⟨W.heap.size, 0, none⟩) 1 1) (W.alloc (.cells #[.slice none 0 0, .int .i64 0] 88)) := by
  obtain ⟨i0, hi, hz0, hz1, hz2⟩ := info_held
  have h := run_make (P := Tryd.prog) W 81 88 i0 _ Tryd.underlying81 hi hz0 .i64 .i64 1 1 (by decide) (by decide) (by rw [hz2]; decide) (by decide)
  rw [h, hz1, show Int.toNat 1 = 1 by decide, show madeCells (Value.agg #[.slice none 0 0, .int .i64 0]).cells (1 * 2) = #[.slice none 0 0, .int .i64 0] by kernel_rfl]

theorem al_new {W : World} {o : Obj} {b : Nat} (e : b = W.heap.size) : (W.alloc o).heap[b]? = some o := by rw [e]; exact heap_alloc_new W o
theorem al_old {W : World} {o : Obj} {b : Nat} {r : Option Obj} (hb : b < W.heap.size) (e : W.heap[b]? = r) : (W.alloc o).heap[b]? = r := by rw [Below.heap_alloc W o b hb, e]
theorem dr_old {W : World} {b : Nat} {r : Option Obj} (e : W.heap[b]? = r) : W.drew.heap[b]? = r := e
theorem dr_size (W : World) : W.drew.heap.size = W.heap.size := rfl

/-- What New's first statement makes. -/
structure NewR (w : World) (mb sg st tb : Nat) (W : World) : Prop where
  ht : W.heap[tb]? = some (.cells #[.pointer (some ⟨st, 0, none⟩)] 54 (0, 0))
  hst : W.heap[st]? = some (.cells #[.map none, .map (some mb), .slice (some ⟨sg, 0, none⟩) 1 1, .slice none 0 0] 83 (0, 0))
  hsg : W.heap[sg]? = some (.cells #[.slice none 0 0, .int .i64 0] 88 (0, 0))
  hmb : W.ownsMap Tryd.prog 9 (plainElem Tryd.prog 3) mb 1 ((DataW.map [] : DataW Unit).put (.string []) (.lit (.int .i64 0)))
  bel : Below w.heap.size w W
  b1 : w.heap.size ≤ mb
  b2 : w.heap.size ≤ sg
  b3 : w.heap.size ≤ st
  b4 : w.heap.size ≤ tb

theorem NewR.ids (ks : List Key) : Ids ((DataW.map [] : DataW Unit).put (.string []) (.lit (.int .i64 0))) (newT ks) := by
  have h0 : ∀ i, (newT ks).live i → i = 0 := fun i hi => by
    rcases hi with h | ⟨h1, _⟩
    · exact h
    · simp [newT] at h1; exact h1
  have hs : (newT ks).set 0 = [] := rfl
  refine ⟨Maps.tidy_empty.put (str_key _) _, fun i hi z => ?_, fun i hi => ?_, fun s hh => ?_, ?_⟩
  · rw [h0 i hi, hs]; exact Maps.atKey_put_same Maps.isMap_empty (str_key _) _ _
  · rw [h0 i hi, hs]; exact Maps.has_put_same Maps.isMap_empty (str_key _) _
  · by_cases e : s = []
    · exact ⟨0, .inl rfl, by rw [hs]; exact e⟩
    · rw [Maps.has_put_other (fun e2 => e (by injection e2))] at hh
      cases hh
  · rw [Maps.size_put Maps.tidy_empty]; rfl
/-- The table that New makes. -/
theorem NewR.tb {w W : World} {mb sg st tb : Nat} (h : NewR w mb sg st tb W) {ks : List Key} (hg : Good ks) {m : Option Nat} (hm : (m = none ∧ ks = []) ∨ ∃ sb, m = some sb ∧ sb < w.heap.size ∧ w.ownsMap Tryd.prog 3 keyElem sb 64 (dat ks)) :
    Tb w.heap.size (fun k => w.heap.size ≤ k) tb (newT ks) 0 (W.setCell ⟨st, 0, none⟩ (.map m)) ∧ Below w.heap.size w (W.setCell ⟨st, 0, none⟩ (.map m)) := by
  have hG := grown_set (w := W) (g := st) (o := 0) (.map m)
  have hB : Below w.heap.size w (W.setCell ⟨st, 0, none⟩ (.map m)) := h.bel.setCell (p := ⟨st, 0, none⟩) h.b3 _
  have hst := heap_set (w := W) (g := st) (o := 0) (.map m) h.hst
  have hf : ∀ g', some st = some g' → ∃ o', W.heap[g']? = some o' ∧ ∀ c, o' ≠ .cells c 88 (0, 0) := fun g' hg' => by cases hg'; exact ⟨_, h.hst, fun c hc => by simp at hc⟩
  refine ⟨⟨st, mb, m, .slice (some ⟨sg, 0, none⟩) 1 1, .slice none 0 0, [noHV], _, ⟨far hG h.ht (fun g' hg' => by cases hg'; exact ⟨_, h.hst, by simp⟩), hst, hg, ?_, map_far hG h.hmb (fun g' hg' => by cases hg'; exact ⟨_, _, _, h.hst⟩), own_far hG ?_ hf, ⟨rfl, .inl ⟨rfl, rfl⟩⟩, fun i x hx => ?_, fun i x hx => ?_, h.b4, h.b3, h.b1, fun g hg' => ?_, fun g hg' => ?_, fun i x hx g hg' => ?_, fun k hk => hk, hB.size, NewR.ids ks, ok_new ks, le_new ks⟩⟩, hB⟩
  · rcases hm with h0 | ⟨sb, h1, h2, h3⟩
    · exact .inl h0
    · exact .inr ⟨sb, h1, h2, map_kept h3 (hB.block sb h2)⟩
  · exact ⟨rfl, .inr ⟨sg, 1, _, rfl, Nat.zero_le _, h.hsg, Nat.le_refl _, by decide, rfl, rfl⟩⟩
  · have hi : i = 0 := by have := (List.getElem?_eq_some_iff.1 hx).1; simpa using this
    subst hi
    cases hx
    exact ⟨rfl, .inl ⟨rfl, rfl⟩⟩
  · have hi : i = 0 := by have := (List.getElem?_eq_some_iff.1 hx).1; simpa using this
    subst hi
    cases hx
    rfl
  · simp [Value.ownBlock] at hg'; subst hg'; exact h.b2
  · simp [Value.ownBlock] at hg'
  · have hi : i = 0 := by have := (List.getElem?_eq_some_iff.1 hx).1; simpa using this
    subst hi
    cases hx
    simp [Value.ownBlock] at hg'
theorem NewR.cells {w W : World} {mb sg st tb : Nat} (h : NewR w mb sg st tb W) : W.cell? ⟨tb, 0, none⟩ = some (.pointer (some ⟨st, 0, none⟩)) ∧ W.cell? ⟨st, 0, none⟩ = some (.map none) ∧ W.frozen? ⟨st, 0, none⟩ = false := by
  refine ⟨?_, ?_, by simp [World.frozen?, h.hst]⟩
  · rw [cell_of_row W tb 0 _ _ _ h.ht]; rfl
  · rw [cell_of_row W st 0 _ _ _ h.hst]; rfl
theorem Tb.below {B : Nat} {S : Nat → Prop} {tb : Nat} {T : TabS} {n : Nat} {w w' : World} (h : Tb B S tb T n w) (hb : Below w.heap.size w w') : Tb B S tb T n w' := by
  obtain ⟨st, mb, m, sv, fv, hs, D, h⟩ := h
  exact ⟨st, mb, m, sv, fv, hs, D, h.below hb⟩
theorem tb_drew {B : Nat} {S : Nat → Prop} {tb : Nat} {T : TabS} {n : Nat} {w w' : World} (h : Tb B S tb T n w' ∧ Below B w w') : Tb B S tb T n w'.drew ∧ Below B w w'.drew := ⟨h.1.below (Below.refl _ _).drew, h.2.drew⟩
@[reducible] def NewP (ks : List Key) (w : World) (e : Ending) (w' : World) : Prop := ∃ tb, e = .returned (.pointer (some ⟨tb, 0, none⟩)) ∧ Tb w.heap.size (fun k => w.heap.size ≤ k) tb (newT ks) 0 w' ∧ Below w.heap.size w w'

set_option maxRecDepth 100000 in
set_option maxHeartbeats 4000000 in
theorem new7_any (v : Value) (ks : List Key) (w : World) (hs : Sch w v ks) :
    Calls Tryd.prog 12 #[v] w (NewP ks w) := by
  have hmm := @run_makeMap Tryd.prog
  have hsb := put0_size
  have hms := make_held
  have hmu0 := put0_run (w.alloc (.map #[] 0)).drew w.heap.size (al_new rfl)
  have hmu1 := put0_run ((w.alloc (.map #[] 0)).alloc (.cells #[.slice none 0 0, .int .i64 0] 88)).drew w.heap.size (al_old (by first | omega | (simp only [World.size_alloc]; done) | (simp only [World.size_alloc]; omega)) (al_new rfl))
  have hmu2 := put0_run ((w.alloc (.cells #[.slice none 0 0, .int .i64 0] 88)).alloc (.map #[] 0)).drew (w.heap.size + 1) (al_new (by first | omega | (simp only [World.size_alloc]; done) | (simp only [World.size_alloc]; omega)))
  have hmu3 := put0_run (((w.alloc (.map #[] 0)).alloc (.cells #[.slice none 0 0, .int .i64 0] 88)).alloc (.cells #[.map none, .map (some w.heap.size), .slice (some ⟨(w.heap.size + 1), 0, none⟩) 1 1, .slice none 0 0] 83)).drew w.heap.size (al_old (by first | omega | (simp only [World.size_alloc]; done) | (simp only [World.size_alloc]; omega)) (al_old (by first | omega | (simp only [World.size_alloc]; done) | (simp only [World.size_alloc]; omega)) (al_new rfl)))
  have hmu4 := put0_run (((w.alloc (.cells #[.slice none 0 0, .int .i64 0] 88)).alloc (.map #[] 0)).alloc (.cells #[.map none, .map (some (w.heap.size + 1)), .slice (some ⟨w.heap.size, 0, none⟩) 1 1, .slice none 0 0] 83)).drew (w.heap.size + 1) (al_old (by first | omega | (simp only [World.size_alloc]; done) | (simp only [World.size_alloc]; omega)) (al_new (by first | omega | (simp only [World.size_alloc]; done) | (simp only [World.size_alloc]; omega))))
  have hmu5 := put0_run ((((w.alloc (.map #[] 0)).alloc (.cells #[.slice none 0 0, .int .i64 0] 88)).alloc (.cells #[.map none, .map (some w.heap.size), .slice (some ⟨(w.heap.size + 1), 0, none⟩) 1 1, .slice none 0 0] 83)).alloc (.cells #[.pointer (some ⟨w.heap.size + 2, 0, none⟩)] 54)).drew w.heap.size (al_old (by first | omega | (simp only [World.size_alloc]; done) | (simp only [World.size_alloc]; omega)) (al_old (by first | omega | (simp only [World.size_alloc]; done) | (simp only [World.size_alloc]; omega)) (al_old (by first | omega | (simp only [World.size_alloc]; done) | (simp only [World.size_alloc]; omega)) (al_new rfl))))
  have hmu6 := put0_run ((((w.alloc (.cells #[.slice none 0 0, .int .i64 0] 88)).alloc (.map #[] 0)).alloc (.cells #[.map none, .map (some (w.heap.size + 1)), .slice (some ⟨w.heap.size, 0, none⟩) 1 1, .slice none 0 0] 83)).alloc (.cells #[.pointer (some ⟨w.heap.size + 2, 0, none⟩)] 54)).drew (w.heap.size + 1) (al_old (by first | omega | (simp only [World.size_alloc]; done) | (simp only [World.size_alloc]; omega)) (al_old (by first | omega | (simp only [World.size_alloc]; done) | (simp only [World.size_alloc]; omega)) (al_new (by first | omega | (simp only [World.size_alloc]; done) | (simp only [World.size_alloc]; omega)))))
  go_enter Tryd.func12, Tryd.ntmps12
  go_wp2_with fail
  go_cut [3] from 4 (fun s3 wr => ∃ mb sg st tb, s3 = .pointer (some ⟨tb, 0, none⟩) ∧ NewR w mb sg st tb wr)
  case first =>
    go_region_with (first | (go_at_call 29; refine (text_nil _).mono ?_; rintro e w' ⟨rfl, rfl⟩))
    all_goals go_wp2
    all_goals go_meet
    all_goals clear hmm hsb hms hmu0 hmu1 hmu2 hmu3 hmu4 hmu5 hmu6
    all_goals first
      | (refine ⟨w.heap.size, w.heap.size + 1, w.heap.size + 1 + 1, _, rfl, NewR.mk ?h1 ?h2 ?h3 ?h4 ?h5 ?b1 ?b2 ?b3 ?b4⟩
         case h2 => repeat (first | exact al_new (by first | omega | (simp only [World.size_alloc, put0_size, dr_size]; done) | (simp only [World.size_alloc, put0_size, dr_size]; omega)) | refine al_old (by first | omega | (simp only [World.size_alloc, put0_size, dr_size]; done) | (simp only [World.size_alloc, put0_size, dr_size]; omega)) ?_ | refine dr_old ?_ | refine put0_other (by first | omega | (simp only [World.size_alloc, put0_size, dr_size]; done) | (simp only [World.size_alloc, put0_size, dr_size]; omega)) ?_)
         case h3 => repeat (first | exact al_new (by first | omega | (simp only [World.size_alloc, put0_size, dr_size]; done) | (simp only [World.size_alloc, put0_size, dr_size]; omega)) | refine al_old (by first | omega | (simp only [World.size_alloc, put0_size, dr_size]; done) | (simp only [World.size_alloc, put0_size, dr_size]; omega)) ?_ | refine dr_old ?_ | refine put0_other (by first | omega | (simp only [World.size_alloc, put0_size, dr_size]; done) | (simp only [World.size_alloc, put0_size, dr_size]; omega)) ?_)
         case h1 => repeat (first | exact al_new (by first | omega | (simp only [World.size_alloc, put0_size, dr_size]; done) | (simp only [World.size_alloc, put0_size, dr_size]; omega)) | refine al_old (by first | omega | (simp only [World.size_alloc, put0_size, dr_size]; done) | (simp only [World.size_alloc, put0_size, dr_size]; omega)) ?_ | refine dr_old ?_ | refine put0_other (by first | omega | (simp only [World.size_alloc, put0_size, dr_size]; done) | (simp only [World.size_alloc, put0_size, dr_size]; omega)) ?_)
         case h4 => repeat (first | exact put0_owns _ _ (by repeat (first | exact al_new (by first | omega | (simp only [World.size_alloc]; done) | (simp only [World.size_alloc]; omega)) | refine al_old (by first | omega | (simp only [World.size_alloc]; done) | (simp only [World.size_alloc]; omega)) ?_ | refine dr_old ?_ | refine put0_other (by first | omega | (simp only [World.size_alloc]; done) | (simp only [World.size_alloc]; omega)) ?_)) | refine World.ownsMap.alloc ?_ _ | refine World.ownsMap.drew ?_)
         case h5 => repeat (first | exact Below.refl _ _ | refine Below.alloc ?_ (by first | omega | (simp only [World.size_alloc, put0_size, dr_size]; done) | (simp only [World.size_alloc, put0_size, dr_size]; omega)) _ | refine put0_below ?_ (by first | omega | (simp only [World.size_alloc, put0_size, dr_size]; done) | (simp only [World.size_alloc, put0_size, dr_size]; omega)) | refine Below.drew ?_)
         case b1 => omega
         case b2 => omega
         case b3 => omega
         case b4 => omega)
      | (refine ⟨w.heap.size + 1, w.heap.size, w.heap.size + 1 + 1, _, rfl, NewR.mk ?h1 ?h2 ?h3 ?h4 ?h5 ?b1 ?b2 ?b3 ?b4⟩
         case h2 => repeat (first | exact al_new (by first | omega | (simp only [World.size_alloc, put0_size, dr_size]; done) | (simp only [World.size_alloc, put0_size, dr_size]; omega)) | refine al_old (by first | omega | (simp only [World.size_alloc, put0_size, dr_size]; done) | (simp only [World.size_alloc, put0_size, dr_size]; omega)) ?_ | refine dr_old ?_ | refine put0_other (by first | omega | (simp only [World.size_alloc, put0_size, dr_size]; done) | (simp only [World.size_alloc, put0_size, dr_size]; omega)) ?_)
         case h3 => repeat (first | exact al_new (by first | omega | (simp only [World.size_alloc, put0_size, dr_size]; done) | (simp only [World.size_alloc, put0_size, dr_size]; omega)) | refine al_old (by first | omega | (simp only [World.size_alloc, put0_size, dr_size]; done) | (simp only [World.size_alloc, put0_size, dr_size]; omega)) ?_ | refine dr_old ?_ | refine put0_other (by first | omega | (simp only [World.size_alloc, put0_size, dr_size]; done) | (simp only [World.size_alloc, put0_size, dr_size]; omega)) ?_)
         case h1 => repeat (first | exact al_new (by first | omega | (simp only [World.size_alloc, put0_size, dr_size]; done) | (simp only [World.size_alloc, put0_size, dr_size]; omega)) | refine al_old (by first | omega | (simp only [World.size_alloc, put0_size, dr_size]; done) | (simp only [World.size_alloc, put0_size, dr_size]; omega)) ?_ | refine dr_old ?_ | refine put0_other (by first | omega | (simp only [World.size_alloc, put0_size, dr_size]; done) | (simp only [World.size_alloc, put0_size, dr_size]; omega)) ?_)
         case h4 => repeat (first | exact put0_owns _ _ (by repeat (first | exact al_new (by first | omega | (simp only [World.size_alloc]; done) | (simp only [World.size_alloc]; omega)) | refine al_old (by first | omega | (simp only [World.size_alloc]; done) | (simp only [World.size_alloc]; omega)) ?_ | refine dr_old ?_ | refine put0_other (by first | omega | (simp only [World.size_alloc]; done) | (simp only [World.size_alloc]; omega)) ?_)) | refine World.ownsMap.alloc ?_ _ | refine World.ownsMap.drew ?_)
         case h5 => repeat (first | exact Below.refl _ _ | refine Below.alloc ?_ (by first | omega | (simp only [World.size_alloc, put0_size, dr_size]; done) | (simp only [World.size_alloc, put0_size, dr_size]; omega)) _ | refine put0_below ?_ (by first | omega | (simp only [World.size_alloc, put0_size, dr_size]; done) | (simp only [World.size_alloc, put0_size, dr_size]; omega)) | refine Below.drew ?_)
         case b1 => omega
         case b2 => omega
         case b3 => omega
         case b4 => omega)
  case rest =>
    obtain ⟨mb, sg, st, tb, rfl, hR⟩ := hcut
    obtain ⟨c0, c1, c2⟩ := hR.cells
    have HR := Lib.hid hR
    clear hR hmm hsb hms hmu0 hmu1 hmu2 hmu3 hmu4 hmu5 hmu6
    obtain ⟨hg, h⟩ := hs
    rcases h with ⟨rfl, rfl⟩ | ⟨s, rfl, hc, rfl⟩ | ⟨s, b, rfl, hc, ho⟩
    · have HE := HR.out.tb hg (m := none) (.inl ⟨rfl, rfl⟩)
      rw [set_same c1] at HE
      go_wp2
      go_ret
      exact ⟨tb, rfl, HE⟩
    · have HE := HR.out.tb hg (m := none) (.inl ⟨rfl, rfl⟩)
      have hc2 := (HR.out.bel.cell (p := ⟨s, 0, none⟩) (World.block_lt_of_cell? w _ hc)).trans hc
      have HE := Lib.hid HE
      go_wp2
      go_region
      all_goals go_wp2
      all_goals go_ret
      all_goals exact ⟨tb, rfl, tb_drew HE.out⟩
    · have HE := HR.out.tb hg (m := some b) (.inr ⟨b, rfl, ho.lt, ho⟩)
      have hc2 := (HR.out.bel.cell (p := ⟨s, 0, none⟩) (World.block_lt_of_cell? w _ hc)).trans hc
      have HE := Lib.hid HE
      go_wp2
      go_region
      all_goals go_wp2
      all_goals go_ret
      all_goals exact ⟨tb, rfl, tb_drew HE.out⟩
end Go.Proofs.YtiobcifpebehnaaDoor
