
import Derived.Test.YtjgfgpkaeddjhaaOH
/- OI: Of -/
namespace Go.Proofs.Ytjgfgpkaeddjhaa
open Go.RowKit
set_option linter.unusedVariables false

/-- What Of answers: why there is no chunk, and the chunk's runes. -/
def ofE (xs : List Int) : Int := if xs.all code = true then (if 32 < xs.length then 8 else 0) else 3
def ofL (xs : List Int) : List Int := if ofE xs = 0 then xs else []
theorem code_iff {r : Int} : code r = true ↔ 0 ≤ r ∧ r ≤ 1114111 ∧ ¬ (55296 ≤ r ∧ r ≤ 57343) := by
  simp [code]; omega
theorem ofE_bad {xs : List Int} {k : Nat} (hk : k < xs.length) (h : code (xs.getD k 0) = false) : ofE xs = 3 := by
  unfold ofE
  rw [if_neg]
  intro ha
  have := List.all_eq_true.1 ha (xs.getD k 0) (by simp [List.getD, hk])
  rw [h] at this; cases this
theorem ofE_long {xs : List Int} (h : xs.all code = true) (hl : 32 < xs.length) : ofE xs = 8 := by unfold ofE; rw [if_pos h, if_pos hl]
theorem ofE_ok {xs : List Int} (h : xs.all code = true) (hl : ¬ 32 < xs.length) : ofE xs = 0 := by unfold ofE; rw [if_pos h, if_neg hl]
theorem chunky_of {xs : List Int} (h : ofE xs = 0) : Chunky xs := by
  unfold ofE at h
  split at h
  · rename_i ha
    split at h
    · cases h
    · exact ⟨by omega, fun r hr => by have := code_iff.1 (List.all_eq_true.1 ha r hr); omega⟩
  · cases h
theorem chunky_ofL (xs : List Int) : Chunky (ofL xs) := by
  unfold ofL
  split
  · rename_i h; exact chunky_of h
  · exact chunky_nil
theorem ofL_ok {xs : List Int} (h : ofE xs = 0) : ofL xs = xs := by unfold ofL; rw [if_pos h]
theorem ofL_not {xs : List Int} (h : ofE xs ≠ 0) : ofL xs = [] := by unfold ofL; rw [if_neg h]
theorem all_take_succ {xs : List Int} {k : Nat} (hk : k < xs.length) (h : (xs.take k).all code = true) (h2 : code (xs.getD k 0) = true) : (xs.take (k + 1)).all code = true := by
  rw [take_snoc xs k hk, List.all_append, h]
  simpa using h2
theorem slots_set {l : List Int} {k : Nat} (hk : k < l.length) (hl : l.length ≤ 32) : (slots (l.take k)).set k (l.getD k 0 + 1) = slots (l.take (k + 1)) := by
  have h1 : (l.take k).length = k := by rw [List.length_take]; omega
  have h2 : (l.take (k + 1)).length = k + 1 := by rw [List.length_take]; omega
  unfold slots
  rw [h1, h2, List.set_append_right _ _ (by simp; omega), List.length_map, h1, Nat.sub_self, show 32 - k = (32 - (k + 1)) + 1 by omega, List.replicate_succ, List.set_cons_zero, take_snoc l k hk, List.map_append, List.append_assoc]
  rfl

/-- A result's row alone. -/
structure J1 (w : World) (zs : List Int) (W : World) : Prop where
  r : RowAt w.heap.size 58 zs W
  bel : Below w.heap.size w W
theorem j1_new (w : World) : J1 w zero32 (w.alloc (.cells (row zero32) 58)) := ⟨rowAt_new w _ _, (Below.refl _ _).alloc (Nat.le_refl _) _⟩
theorem J1.setr {w W : World} {zs : List Int} (h : J1 w zs W) (zs' : List Int) : J1 w zs' (W.setRow w.heap.size (row zs')) := ⟨h.r.setRow, below_setRow h.bel (Nat.le_refl _) _⟩
theorem results_of {W w : World} {zs : List Int} (hz : zs.length = 32) (h : J1 w zs W) (tm : Array Value) (h2 : tm.getD 2 undef = .pointer (some ⟨w.heap.size, 0, none⟩)) {e : Int} (h3 : tm.getD 3 undef = .int .i64 e) :
    (results Try.f58 tm).run Try.prog W = .ok (.tuple #[.agg (row zs), .int .i64 e]) W := by
  have r4 := run_loadVar_row (P := Try.prog) W w.heap.size _ 58 (row zs) _ _ h.r Try.underlying58 rfl (info_chunk32 zs hz)
  have h2' : tm[2]?.getD undef = .pointer (some ⟨w.heap.size, 0, none⟩) := by simpa using h2
  have h3' : tm[3]?.getD undef = .int .i64 e := by simpa using h3
  simp [results, Try.results58, h2', h3', asAddr, r4]
def ofV (xs : List Int) : Value := .tuple #[cv (ofL xs), .int .i64 (ofE xs)]
theorem ofV_not {xs : List Int} {e : Int} (h : ofE xs = e) (h0 : e ≠ 0) : ofV xs = .tuple #[.agg (row zero32), .int .i64 e] := by
  unfold ofV cv; rw [ofL_not (by rw [h]; exact h0), h, slots_nil]
theorem ofV_ok {xs : List Int} (h : ofE xs = 0) : ofV xs = .tuple #[.agg (row (slots xs)), .int .i64 0] := by
  unfold ofV cv; rw [ofL_ok h, h]

theorem of_any (v : Value) (xs : List Int) (w : World) (hv : Ints .i32 w v xs) : Calls Try.prog 58 #[v] w fun e w' => e = .returned (ofV xs) ∧ Below w.heap.size w w' := by
  have HZ := Lib.hid zero32_len
  have HV := Lib.hid hv
  have hlen := hv.len
  have H := Lib.hid (j1_new w)
  have H0 := Lib.hid (H.out.setr zero32)
  obtain ⟨a, cap, rfl⟩ := hv.shape
  clear hv
  go_enter Try.func58, Try.ntmps58
  go_wp2
  refine with_world (J1 w zero32) H.out fun W hW => ?_
  have HW := Lib.hid hW
  have HVW := Lib.hid (HV.out.below hW.bel)
  have HW0 := Lib.hid (hW.setr zero32)
  clear hW HV H H0
  go_loop [9] (fun s9 => ∃ k : Nat, k ≤ xs.length ∧ s9 = .int .i64 k ∧ Hid ((xs.take k).all code = true)) (fun s9 => xs.length - (intOf s9).toNat)
  case atStart => exact ⟨0, Nat.zero_le _, rfl, Lib.hid (by simp)⟩
  case round =>
    obtain ⟨k, hk, rfl, HA⟩ := hrel
    have i0 : (0 : Int) ≤ (k : Int) := by omega
    by_cases hlt : k < xs.length
    · obtain ⟨b, off, rfl, -, hxc, hcm, hc⟩ := HVW.out.opened (by omega)
      have hck := hc k hlt
      have i1 : (k : Int) < xs.length := by omega
      have ST := Lib.hid (fun h2 => all_take_succ hlt HA.out h2)
      have BD := Lib.hid (fun h2 => ofV_not (ofE_bad hlt h2) (by decide))
      obtain ⟨r, hr⟩ : ∃ r, xs.getD k 0 = r := ⟨_, rfl⟩
      rw [hr] at hck ST BD
      obtain ⟨c, hcc⟩ : ∃ c, code r = c := ⟨_, rfl⟩
      have HM := Lib.hid (fun w => may_any r w)
      rw [hcc] at HM ST BD
      clear hc hr hcc
      cases c
      · have BD2 := Lib.hid (BD.out rfl)
        clear BD ST
        go_wp2_with (first
          | (go_at_call 83; refine (HM.out _).mono ?_; rintro e w1 ⟨rfl, rfl⟩)
          | (refine wpList_store_row rfl 58 (.tmp 2) (.tmp 18) rfl w.heap.size (row zero32) rfl rfl _ _ HW.out.r (info_chunk32 _ HZ.out) rfl (row_one _) ?_))
        exact bodyPost_ret (results_of HZ.out HW0.out _ rfl rfl) rfl ⟨by rw [BD2.out], HW0.out.bel⟩
      · have ST2 := Lib.hid (ST.out rfl)
        clear BD ST
        go_wp2_with (go_at_call 83; refine (HM.out _).mono ?_; rintro e w1 ⟨rfl, rfl⟩)
        go_round
        case rel => exact ⟨k + 1, by omega, by go_num, ST2⟩
        case measure => simp [intOf]; omega
    · obtain rfl : k = xs.length := by omega
      have hall : xs.all code = true := by have := HA.out; rwa [List.take_of_length_le (Nat.le_refl _)] at this
      by_cases hl : 32 < xs.length
      · have g1 : (32 : Int) < xs.length := by omega
        have BD := Lib.hid (ofV_not (ofE_long hall hl) (by decide))
        clear hall
        go_wp2_with (refine wpList_store_row rfl 58 (.tmp 2) (.tmp 23) rfl w.heap.size (row zero32) rfl rfl _ _ HW.out.r (info_chunk32 _ HZ.out) rfl (row_one _) ?_)
        exact bodyPost_ret (results_of HZ.out HW0.out _ rfl rfl) rfl ⟨by rw [BD.out], HW0.out.bel⟩
      · have g1 : ¬ (32 : Int) < xs.length := by omega
        have GD := Lib.hid (ofV_ok (ofE_ok hall hl))
        have HCH := Lib.hid (chunky_of (ofE_ok hall hl))
        clear hall HA
        go_wp2
        refine with_world (fun W2 => RowAt W.heap.size 58 zero32 W2 ∧ Below W.heap.size W W2) ⟨rowAt_new W _ _, (Below.refl _ _).alloc (Nat.le_refl _) _⟩ fun W2 hW2 => ?_
        have H2 := Lib.hid hW2
        have hl32 : xs.length ≤ 32 := by omega
        have SS := Lib.hid (fun k (h : k < xs.length) => slots_set h hl32)
        have SL := Lib.hid (fun k => slots_len (HCH.out.take k).1)
        have hwl := HW.out.r.lt
        clear hW2
        go_loopw [26] (fun s26 wr => ∃ k : Nat, k ≤ xs.length ∧ s26 = .int .i64 k ∧ Hid (RowAt W.heap.size 58 (slots (xs.take k)) wr ∧ Below W.heap.size W wr)) (fun s26 _ => xs.length - (intOf s26).toNat)
        case atStart => exact ⟨0, Nat.zero_le _, rfl, Lib.hid ⟨by rw [List.take_zero, slots_nil]; exact H2.out.1, H2.out.2⟩⟩
        case round =>
          rename_i wr
          obtain ⟨k, hk, rfl, HR⟩ := hrel
          have i0 : (0 : Int) ≤ (k : Int) := by omega
          by_cases hlt : k < xs.length
          · obtain ⟨b, off, rfl, -, hxc, hcm, hc⟩ := (HVW.out.below HR.out.2).opened (by omega)
            have hck := hc k hlt
            have i1 : (k : Int) < xs.length := by omega
            have i2 : (k : Int) < 32 := by omega
            have hm := HCH.out.2 (xs.getD k 0) (by simp [List.getD, hlt])
            have hw := wrap_slot hm.1 hm.2
            have hc2 := HR.out.1.cell (j := k) (by rw [SL.out k]; omega)
            have hf2 := HR.out.1.frozen (j := k)
            have hset := SS.out k hlt
            obtain ⟨r, hr⟩ : ∃ r, xs.getD k 0 = r := ⟨_, rfl⟩
            obtain ⟨y, hy⟩ : ∃ y, (slots (xs.take k)).getD k 0 = y := ⟨_, rfl⟩
            rw [hr] at hck hw hset
            rw [hy] at hc2
            have HE := Lib.hid (show RowAt W.heap.size 58 (slots (xs.take (k + 1))) (wr.setCell ⟨W.heap.size, k, none⟩ (.int .i32 (r + 1))) ∧ Below W.heap.size W (wr.setCell ⟨W.heap.size, k, none⟩ (.int .i32 (r + 1))) from
              ⟨by rw [← hset]; exact HR.out.1.set (r + 1), HR.out.2.setCell (by simp) _⟩)
            clear hc hr hy hm hset SS SL
            go_wp2
            go_round
            case rel => exact ⟨k + 1, by omega, by go_num, by first | exact HE | (rw [hw]; exact HE)⟩
            case measure => simp [intOf]; omega
          · obtain rfl : k = xs.length := by omega
            have RF := Lib.hid HR.out.1
            have JF : Hid (J1 w zero32 wr) := Lib.hid ⟨HW.out.r.below HR.out.2, below_add HW.out.bel HR.out.2 HW.out.bel.size⟩
            have JG := Lib.hid (JF.out.setr (slots xs))
            have e : xs.take xs.length = xs := List.take_of_length_le (Nat.le_refl _)
            rw [e] at RF
            have IX := Lib.hid (slots_len HCH.out.1)
            clear e SS SL HR HVW H2
            go_wp2_with (first
              | (refine wpList_load_roww 58 (.tmp 5) rfl W.heap.size rfl (by rfl) _ _ _ _ RF.out Try.underlying58 rfl (info_chunk32 _ IX.out) ?_)
              | (refine wpList_store_row rfl 58 (.tmp 2) (.tmp 38) rfl w.heap.size (row (slots xs)) rfl rfl _ _ JF.out.r (info_chunk32 _ IX.out) (by rw [row_size, row_size, IX.out]; rfl) (row_one _) ?_))
            exact bodyPost_ret (results_of IX.out JG.out _ rfl rfl) rfl ⟨by rw [GD.out], JG.out.bel⟩
end Go.Proofs.Ytjgfgpkaeddjhaa
