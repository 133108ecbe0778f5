
import Derived.Test.YtiobcifpebehnaaDoorS5
import Derived.RegionTactic
import Derived.BigRegion
import Derived.StillTailTactics
/- S8: New -/
namespace Go.Proofs.YtiobcifpebehnaaDoor
open Go.RowKit
set_option linter.unusedVariables false

theorem make_map_hint {P : Program} {t k e : TypeId} (ht : P.underlying t = some (.map k e)) (q : IntKind) (n : Int) (w : World) : (Instr.makeMap t (some (.int q n))).run P w = .ok (.map (some w.heap.size)) (w.alloc (.map #[] 0)) := by
  simp [Instr.makeMap, run_underlying ht, asInt, asIntOf, Result.andThen]

/-- What New answers. -/
def NewPost (ks : List Key) (w : World) (e : Ending) (w' : World) : Prop :=
  Below w.heap.size w w' ∧ ((mayKs ks ∧ ∃ s, e = .returned (.tuple #[.pointer (some s), .int .i64 0]) ∧ Sch w' (.pointer (some s)) ks) ∨ (¬ mayKs ks ∧ e = .returned (.tuple #[.pointer none, .int .i64 3])))

@[reducible] def kca (k : Key) : Array Value := #[.int .i64 k.id, .bool k.blk, .int .u8 k.kind, .bool k.aft, .bool k.bef, .int .i64 k.grp]
/-- New's loop: k keys are in. -/
def NewRel (w : World) (ks : List Key) (k : Nat) (wr : World) : Prop :=
  Good (ks.take k) ∧ Below w.heap.size w wr ∧ w.heap.size + 2 ≤ wr.heap.size ∧ wr.cell? ⟨w.heap.size + 1, 0, none⟩ = some (.map (some w.heap.size)) ∧ wr.ownsMap Tryd.prog 3 keyElem w.heap.size k (dat (ks.take k))
theorem new_init (w : World) (ks : List Key) : NewRel w ks 0 ((w.alloc (.map #[] 0)).alloc (.cells #[.map (some w.heap.size)] 76)) := by
  refine ⟨good_nil, kbelow_two w _ _, by simp, ?_, (World.ownsMap_made w _ _ _).alloc _⟩
  have h := heap_alloc_new (w.alloc (.map #[] 0)) (.cells #[.map (some w.heap.size)] 76)
  simp only [World.size_alloc] at h
  rw [cell_of_row _ (w.heap.size + 1) 0 _ _ (0, 0) h]
  rfl
theorem new_good {w wr : World} {ks : List Key} (h : NewRel w ks ks.length wr) (hl : ks.length ≤ 64) : NewPost ks w (.returned (.tuple #[.pointer (some ⟨w.heap.size + 1, 0, none⟩), .int .i64 0])) wr := by
  obtain ⟨hg, hb, hz, hc, ho⟩ := h
  rw [List.take_of_length_le (Nat.le_refl _)] at hg ho
  exact ⟨hb, .inl ⟨⟨hl, hg⟩, _, rfl, hg, .inr (.inr ⟨_, _, rfl, hc, ho.mono hl⟩)⟩⟩
theorem new_bad {w wr w' : World} {ks : List Key} {k : Nat} (h : NewRel w ks k wr) (hb : Below wr.heap.size wr w') (hk : k < ks.length) (hn : (fnd (ks.take k) ks[k].id).isSome = true ∨ mayK ks[k] = false) :
    NewPost ks w (.returned (.tuple #[.pointer none, .int .i64 3])) w' :=
  ⟨below_add h.2.1 hb h.2.1.size, .inr ⟨fun hm => bad_step hk hn.symm hm.2, rfl⟩⟩
theorem new_step {w wr w1 w2 : World} {ks : List Key} {k : Nat} (h : NewRel w ks k wr) (hk : k < ks.length) (hf : (fnd (ks.take k) ks[k].id).isSome = false) (hm : mayK ks[k] = true)
    (hb : Below wr.heap.size wr w1) (ho : w2.ownsMap Tryd.prog 3 keyElem w.heap.size (k + 1) ((dat (ks.take k)).put (.int .i64 ks[k].id) (.held ks[k]))) (hg : w1.grownBy w2 (some w.heap.size)) : NewRel w ks (k + 1) w2 := by
  obtain ⟨h1, h2, h3, h4, h5⟩ := h
  have hb1 := below_add h2 hb h2.size
  have hlt : w.heap.size < w1.heap.size := by have := hb.size; omega
  refine ⟨good_step hk h1 hm (by simpa using hf), hb1.grown hg hb1.size (fun j hj => by cases hj; exact Nat.le_refl _), ?_, ?_, ?_⟩
  · have := hb.size; have := hg.size; omega
  · have hc := (hb.cell (p := ⟨w.heap.size + 1, 0, none⟩) (show w.heap.size + 1 < wr.heap.size by omega)).trans h4
    exact (World.cell?_of_block (a := ⟨w.heap.size + 1, 0, none⟩) (hg.block (w.heap.size + 1) (by have := hb.size; omega) (by simp))).trans hc
  · rw [ktake_snoc ks k hk, dat_snoc]; exact ho

theorem new_long (v : Value) (ks : List Key) (w : World) (hv : Krow w v ks) (hl : 64 < ks.length) :
    Calls Tryd.prog 9 #[v] w (NewPost ks w) := by
  have hb := hv.len
  obtain ⟨a, cap, rfl⟩ := hv.shape
  clear hv
  have hn : ¬ mayKs ks := fun h => by have := h.1; omega
  have hn := Lib.hid hn
  go_enter Tryd.func9, Tryd.ntmps9
  go_wp2
  go_ret2
  exact ⟨Below.refl _ _, .inr ⟨hn.out, rfl⟩⟩

set_option maxRecDepth 100000 in
theorem new_none (v : Value) (w : World) (hv : Krow w v []) :
    Calls Tryd.prog 9 #[v] w (NewPost [] w) := by
  obtain ⟨a, cap, rfl⟩ := hv.shape
  clear hv
  have hmm := fun q n w => make_map_hint (P := Tryd.prog) Tryd.underlying74 q n w
  go_enter Tryd.func9, Tryd.ntmps9
  go_wp2
  refine wp_loop_rounds 1 ?_
  rw [rounds_succ]
  go_wp2
  go_ret2
  exact new_good (new_init w []) (by simp)

set_option maxRecDepth 100000 in
set_option maxHeartbeats 1000000 in
theorem new_some (v : Value) (ks : List Key) (w : World) (hv : Krow w v ks) (hl : ks.length ≤ 64) (h0 : 0 < ks.length) (hW : ∀ k ∈ ks, KeyW k) :
    Calls Tryd.prog 9 #[v] w (NewPost ks w) := by
  obtain ⟨a, cap, rfl⟩ := hv.shape
  obtain ⟨b, off, rfl, -, -, -, hbl, hat⟩ := hv.opened h0
  clear hv
  have hmm := fun q n w => make_map_hint (P := Tryd.prog) Tryd.underlying74 q n w
  have hat := Lib.hid hat
  have h11 : decide ((64 : Int) < (ks.length : Int)) = false := by rw [decide_eq_false_iff_not]; omega
  go_enter Tryd.func9, Tryd.ntmps9
  go_wp2
  go_loopw [19] (fun i wr => ∃ k : Nat, k ≤ ks.length ∧ i = .int .i64 k ∧ NewRel w ks k wr) (fun i _ => ks.length - (intOf i).toNat)
  case atStart => exact ⟨0, Nat.zero_le _, rfl, new_init w ks⟩
  case round =>
    obtain ⟨k, hk, rfl, hR⟩ := hrel
    clear hmm
    by_cases hlt : k < ks.length
    · obtain ⟨c0, c1, c2, c3, c4, c5⟩ := (hat.out k hlt).below hR.2.1 hbl
      have hwf := (hW ks[k] (List.getElem_mem hlt)).id
      have HKM := fun w => keymay_any ks[k] w
      have hlk := fun (W : World) (h : W.ownsMap Tryd.prog 3 keyElem w.heap.size k (dat (ks.take k))) => look_key hR.1.2 h hwf rfl rfl
      have hst := fun (w1 w2 : World) (h1 : (fnd (ks.take k) ks[k].id).isSome = false) (h2 : mayK ks[k] = true) => new_step (w1 := w1) (w2 := w2) hR hlt h1 h2
      have hbd := fun (w2 : World) (hb : Below wr.heap.size wr w2) => new_bad hR hb hlt
      have hown := hR.2.2.2.2
      have hcs := hR.2.2.2.1
      generalize ks[k] = kx at *
      generalize (fnd (ks.take k) kx.id).getD noKey = kk at hlk
      generalize (fnd (ks.take k) kx.id).isSome = bb at hlk hst hbd
      generalize mayK kx = mm at HKM hst hbd
      have HKM := Lib.hid HKM
      have hst := Lib.hid hst
      have hbd := Lib.hid hbd
      obtain ⟨x1, x2, x3, x4, x5, x6⟩ := kx
      obtain ⟨y1, y2, y3, y4, y5, y6⟩ := kk
      have hl1 := hlk _ ((hown.alloc (.cells #[.int .i64 x1, .bool x2, .int .u8 x3, .bool x4, .bool x5, .int .i64 x6] 67)).drew)
      have hl2 := hlk _ (((hown.alloc (.cells #[.int .i64 x1, .bool x2, .int .u8 x3, .bool x4, .bool x5, .int .i64 x6] 67)).alloc (.cells zc 67)).drew)
      have hs1 := cell_on hcs (.cells #[.int .i64 x1, .bool x2, .int .u8 x3, .bool x4, .bool x5, .int .i64 x6] 67)
      have hs2 := cell_on hs1 (.cells zc 67)
      have HO := Lib.hid hown
      clear hlk hR hcs hown
      simp only at c0 c1 c2 c3 c4 c5 hl1 hl2
      go_wp2
      go_region
      all_goals
        have hB2 : Below wr.heap.size wr ((wr.alloc (.cells #[.int .i64 x1, .bool x2, .int .u8 x3, .bool x4, .bool x5, .int .i64 x6] 67)).alloc (.cells #[.int .i64 y1, .bool y2, .int .u8 y3, .bool y4, .bool y5, .int .i64 y6] 67)).drew := (kbelow_two wr _ _).drew
        have hsY := cell_on hs1 (.cells #[.int .i64 y1, .bool y2, .int .u8 y3, .bool y4, .bool y5, .int .i64 y6] 67)
        have hoY : ((wr.alloc (.cells #[.int .i64 x1, .bool x2, .int .u8 x3, .bool x4, .bool x5, .int .i64 x6] 67)).alloc (.cells #[.int .i64 y1, .bool y2, .int .u8 y3, .bool y4, .bool y5, .int .i64 y6] 67)).drew.ownsMap Tryd.prog 3 keyElem w.heap.size k (dat (ks.take k)) := ((HO.out.alloc _).alloc _).drew
        have hbY : KBox wr.heap.size ⟨x1, x2, x3, x4, x5, x6⟩ ((wr.alloc (.cells #[.int .i64 x1, .bool x2, .int .u8 x3, .bool x4, .bool x5, .int .i64 x6] 67)).alloc (.cells #[.int .i64 y1, .bool y2, .int .u8 y3, .bool y4, .bool y5, .int .i64 y6] 67)).drew := (KBox.box ⟨x1, x2, x3, x4, x5, x6⟩ wr 67).below (((Below.refl _ _).alloc (Nat.le_refl _) _).drew) (by simp)
        have hsY : ((wr.alloc (.cells #[.int .i64 x1, .bool x2, .int .u8 x3, .bool x4, .bool x5, .int .i64 x6] 67)).alloc (.cells #[.int .i64 y1, .bool y2, .int .u8 y3, .bool y4, .bool y5, .int .i64 y6] 67)).drew.cell? ⟨w.heap.size + 1, 0, none⟩ = some (.map (some w.heap.size)) := hsY
        have hzY : ((wr.alloc (.cells #[.int .i64 x1, .bool x2, .int .u8 x3, .bool x4, .bool x5, .int .i64 x6] 67)).alloc (.cells #[.int .i64 y1, .bool y2, .int .u8 y3, .bool y4, .bool y5, .int .i64 y6] 67)).drew.heap.size = wr.heap.size + 2 := by simp
        clear hl1 hl2 hs1 hs2 c0 c1 c2 c3 c4 c5
        generalize ((wr.alloc (.cells #[.int .i64 x1, .bool x2, .int .u8 x3, .bool x4, .bool x5, .int .i64 x6] 67)).alloc (.cells #[.int .i64 y1, .bool y2, .int .u8 y3, .bool y4, .bool y5, .int .i64 y6] 67)).drew = W at *
        have hzW : wr.heap.size < W.heap.size := by omega
        have hsW := World.block_lt_of_cell? _ _ hsY
        clear hzY
        cases bb
        · cases mm
          · go_wp2_with (go_at_call 28; ((with_reducible refine (HKM.out _).mono ?_); rintro e w1 ⟨rfl, hb1⟩))
            go_ret2
            exact hbd.out _ (below_add hB2 hb1 hB2.size) (.inr trivial)
          · go_wp2_with (go_at_call 28; ((with_reducible refine (HKM.out _).mono ?_); rintro e w1 ⟨rfl, hb1⟩))
            have hs3 := (hb1.cell (p := ⟨w.heap.size + 1, 0, none⟩) hsW).trans hsY
            have ho3 := owns_blk hoY hb1 (Nat.le_refl _)
            obtain ⟨d0, d1, d2, d3, d4, d5⟩ := hbY.below hb1 hzW
            have hB3 := below_add hB2 hb1 hB2.size
            clear hbY hoY hsY
            simp only at d0 d1 d2 d3 d4 d5
            go_still_tail 7, (by kernel_rfl)
            change wpList _ _ _ _ _ w1.drew
            go_wp2_with (at_mapUpdate; refine wpList_mapUpdate_own _ rfl _ _ _ 74 rfl 3 67 keyedInt Tryd.underlying74 keyElem w.heap.size k (dat (ks.take k)) rfl ho3.drew (by have := hl; unfold maxLen; omega) (.int .i64 x1) (kv ⟨x1, x2, x3, x4, x5, x6⟩) (.int .i64 x1) rfl rfl (intKey hwf) (.held ⟨x1, x2, x3, x4, x5, x6⟩) [] (keyElem_mk ⟨x1, x2, x3, x4, x5, x6⟩) ?_; intro w2 hown2 hgrow2)
            go_roundw
            case rel => exact ⟨k + 1, by omega, by go_num, hst.out w1.drew w2 trivial trivial hB3.drew hown2 hgrow2⟩
            case measure => simp [intOf]; omega
        · go_wp2
          go_ret2
          exact hbd.out _ hB2 (.inl trivial)
    · obtain rfl : k = ks.length := by omega
      have hR := Lib.hid hR
      go_wp2
      go_ret2
      exact new_good hR.out hl

/-- New, whatever the keys. -/
theorem new_any (v : Value) (ks : List Key) (w : World) (hv : Krow w v ks) (hW : ∀ k ∈ ks, KeyW k) :
    Calls Tryd.prog 9 #[v] w (NewPost ks w) := by
  by_cases hl : 64 < ks.length
  · exact new_long v ks w hv hl
  · by_cases h0 : 0 < ks.length
    · exact new_some v ks w hv (by omega) h0 hW
    · obtain rfl : ks = [] := List.eq_nil_of_length_eq_zero (by omega)
      exact new_none v w hv
end Go.Proofs.YtiobcifpebehnaaDoor
