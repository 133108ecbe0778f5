
import Derived.Test.YtiobcifpebehnaaDoorI19
/- I20: InternReuse -/
namespace Go.Proofs.YtiobcifpebehnaaDoor
open Go.RowKit
set_option linter.unusedVariables false

@[reducible] def textK : Key := ⟨3, false, 4, false, false, 0⟩
def chA (i : Nat) : Nat := 97 + i % 26
def chB (i : Nat) : Nat := 97 + i / 26
def strI (i : Nat) : ByteArray := ⟨#[UInt8.ofNat (chA i), UInt8.ofNat (chB i)]⟩
def sA (i : Nat) : Att := ⟨3, 4, 0, 0, strI i⟩

theorem strI_conv (i : Nat) (w : World) : (convert 71 9 (.slice (some ⟨w.heap.size, 0, none⟩) 2 2)).run Tryd.prog (w.alloc (.cells #[.int .u8 (97 + (i : Int) % 26), .int .u8 (97 + (i : Int) / 26)] 5)) = .ok (.string (strI i)) (w.alloc (.cells #[.int .u8 (97 + (i : Int) % 26), .int .u8 (97 + (i : Int) / 26)] 5)) := by
  have h := conv_str (P := Tryd.prog) 71 9 5 Tryd.underlying71 Tryd.underlying5 Tryd.underlying9 _ _ _ (ints_built .u8 w 5 [97 + (i : Int) % 26, 97 + (i : Int) / 26] (by simp [maxLen]))
  have e : strOfNums [97 + (i : Int) % 26, 97 + (i : Int) / 26] = strI i := by
    have e1 : (97 + (i : Int) % 26).toNat = chA i := by unfold chA; omega
    have e2 : (97 + (i : Int) / 26).toNat = chB i := by unfold chB; omega
    show ByteArray.mk #[UInt8.ofNat (97 + (i : Int) % 26).toNat, UInt8.ofNat (97 + (i : Int) / 26).toNat] = _
    rw [e1, e2]
    rfl
  rw [e] at h
  exact h

set_option maxRecDepth 100000 in
theorem reuse_set (i : Nat) (hi : i ≤ 60) (w : World) : Calls Tryd.prog 27 #[.int .i64 i] w fun e w' => ∃ b, w.heap.size ≤ b ∧ e = .returned (.slice (some ⟨b, 0, none⟩) 1 1) ∧ Arow w' (.slice (some ⟨b, 0, none⟩) 1 1) [sA i] ∧ Below w.heap.size w w' := by
  have hcv := strI_conv i w
  have hR := row_new1 w (.cells #[.int .u8 (97 + (i : Int) % 26), .int .u8 (97 + (i : Int) / 26)] 5) (sA i) 47
  have hB := kbelow_two w (.cells #[.int .u8 (97 + (i : Int) % 26), .int .u8 (97 + (i : Int) / 26)] 5) (.cells (aca (sA i)) 47)
  have HR := Lib.hid hR
  have HB := Lib.hid hB
  clear hR hB
  go_enter Tryd.func27, Tryd.ntmps27
  go_wp2
  go_ret
  exact ⟨_, Nat.le_add_right _ _, rfl, HR.out, HB.out⟩

/-! ### the sets are all unlike, and may be -/
theorem strI_inj {i j : Nat} (hi : i ≤ 60) (hj : j ≤ 60) (h : strI i = strI j) : i = j := by
  have h1 : #[UInt8.ofNat (chA i), UInt8.ofNat (chB i)] = #[UInt8.ofNat (chA j), UInt8.ofNat (chB j)] := by
    have := congrArg ByteArray.data h
    exact this
  have h2 : UInt8.ofNat (chA i) = UInt8.ofNat (chA j) ∧ UInt8.ofNat (chB i) = UInt8.ofNat (chB j) := by simpa using h1
  obtain ⟨h3, h4⟩ := h2
  have h3 := congrArg UInt8.toNat h3
  have h4 := congrArg UInt8.toNat h4
  rw [UInt8.toNat_ofNat', UInt8.toNat_ofNat'] at h3 h4
  unfold chA chB at *
  omega
theorem sA_inj {i j : Nat} (hi : i ≤ 60) (hj : j ≤ 60) (h : [sA i] = [sA j]) : i = j := by
  have h1 : sA i = sA j := (List.cons.inj h).1
  unfold sA at h1
  injection h1 with _ _ _ _ h5
  exact strI_inj hi hj h5
theorem sA_may_all : ((List.range 61).all fun i => may5 [textK] [sA i] == 0) = true := by kernel_rfl
theorem sA_may {i : Nat} (hi : i ≤ 60) : may5 [textK] [sA i] = 0 := by
  have := List.all_eq_true.1 sA_may_all i (List.mem_range.2 (by omega))
  simpa using this
theorem sA_W (i : Nat) : ∀ a ∈ [sA i], AttW a := by
  intro a ha
  obtain rfl := List.mem_singleton.1 ha
  exact ⟨show (Lit.int .i64 3).wf = true by decide, show (Lit.int .u8 4).wf = true by decide, show (Lit.int .i64 0).wf = true by decide, show (Lit.int .u64 0).wf = true by decide, by simp [sA, strI, ByteArray.size, maxLen]⟩
theorem textGood : mayKs [textK] := by
  refine ⟨by decide, fun k hk => ?_, by simp [Apart]⟩
  obtain rfl := List.mem_singleton.1 hk
  rfl
theorem textKW : ∀ k ∈ [textK], KeyW k := by
  intro k hk
  obtain rfl := List.mem_singleton.1 hk
  exact ⟨by decide, by decide, by decide⟩

theorem look_none_of {T : TabS} {x : List Att} (h : ∀ i, i < T.es.length → T.live i → T.set i ≠ x) : T.look x = none := by
  unfold TabS.look
  rw [List.find?_eq_none]
  intro i hi
  simp only [decide_eq_true_iff]
  rintro ⟨h1, h2⟩
  exact h i (List.mem_range.1 hi) h1 h2
/-- The table with the first k sets. -/
def rE (k : Nat) : List Ent := noEnt :: (List.range k).map fun i => ⟨[sA i], 1⟩
def rT (k : Nat) : TabS := ⟨[textK], rE k, []⟩
theorem rE_len (k : Nat) : (rE k).length = k + 1 := by simp [rE]
theorem rE_succ (k : Nat) : rE (k + 1) = rE k ++ [⟨[sA k], 1⟩] := by simp [rE, List.range_succ]
theorem rE_set {k i : Nat} (h : i < k + 1) : (rE k).getD i noEnt = if i = 0 then noEnt else ⟨[sA (i - 1)], 1⟩ := by
  unfold rE
  cases i with
  | zero => rfl
  | succ j =>
    rw [if_neg (by omega)]
    rw [List.getD_eq_getElem?_getD, List.getElem?_cons_succ, List.getElem?_map, List.getElem?_range (by omega)]
    rfl
theorem rT_look {k n : Nat} (hk : k ≤ n) (hn : n ≤ 60) : (rT k).look [sA n] = none := by
  refine look_none_of fun i hi _ => ?_
  have hi' : i < k + 1 := by simpa [rT, rE_len] using hi
  unfold TabS.set
  show ((rE k).getD i noEnt).set ≠ _
  rw [rE_set hi']
  split
  · simp
  · intro e
    have := sA_inj (by omega) hn e
    omega
theorem rT_add {k : Nat} (hk : k ≤ 60) : (rT k).add [sA k] = rT (k + 1) ∧ (rT k).idOf [sA k] = k + 1 := by
  have hl := rT_look (Nat.le_refl k) hk
  unfold TabS.add TabS.idOf
  rw [hl]
  refine ⟨?_, ?_⟩
  · show (⟨[textK], rE k ++ [⟨[sA k], 1⟩], []⟩ : TabS) = _
    rw [← rE_succ]
    rfl
  · show (rE k).length = k + 1
    exact rE_len k
/-- .. without one of them. -/
def rG (n g : Nat) : TabS := ⟨[textK], (rE n).set (g + 1) noEnt, [g + 1]⟩
def rH (n g : Nat) : TabS := ⟨[textK], ((rE n).set (g + 1) noEnt).set (g + 1) ⟨[sA n], 1⟩, []⟩
theorem rT_has {n g : Nat} (hg : g < n) : (rT n).has ((g + 1 : Nat) : Int) = true := by
  refine live_has (.inr ⟨by simp [rT, rE_len]; omega, ?_⟩)
  show 0 < ((rE n).getD (g + 1) noEnt).n
  rw [rE_set (by omega), if_neg (by omega)]
  exact Nat.one_pos
theorem rT_less {n g : Nat} (hg : g < n) : (rT n).less (g + 1) = rG n g := by
  rw [less_out (by omega)]
  · rfl
  · show ((rE n).getD (g + 1) noEnt).n = 1
    rw [rE_set (by omega), if_neg (by omega)]
theorem rG_get {n g i : Nat} (hg : g < n) : ((rE n).set (g + 1) noEnt).getD i noEnt = if i = g + 1 then noEnt else (rE n).getD i noEnt := by
  rw [getD_set]
  by_cases h : i = g + 1
  · rw [if_pos ⟨h, by rw [rE_len]; omega⟩, if_pos h]
  · rw [if_neg (fun hc => h hc.1), if_neg h]
theorem rG_add {n g : Nat} (hg : g < n) (hn : n ≤ 60) : (rG n g).add [sA n] = rH n g ∧ (rG n g).idOf [sA n] = g + 1 := by
  have hl : (rG n g).look [sA n] = none := by
    refine look_none_of fun i hi _ => ?_
    have hi' : i < n + 1 := by simpa [rG, rE_len] using hi
    show (((rE n).set (g + 1) noEnt).getD i noEnt).set ≠ _
    rw [rG_get hg]
    split
    · simp
    · rw [rE_set hi']
      split
      · simp
      · intro e
        have := sA_inj (by omega) hn e
        omega
  unfold TabS.add TabS.idOf
  rw [hl]
  exact ⟨rfl, rfl⟩
theorem rH_get {n g i : Nat} (hg : g < n) : (((rE n).set (g + 1) noEnt).set (g + 1) ⟨[sA n], 1⟩).getD i noEnt = if i = g + 1 then ⟨[sA n], 1⟩ else (rE n).getD i noEnt := by
  rw [getD_set]
  by_cases h : i = g + 1
  · rw [if_pos ⟨h, by rw [List.length_set, rE_len]; omega⟩, if_pos h]
  · rw [if_neg (fun hc => h hc.1), if_neg h, rG_get hg, if_neg h]
theorem rH_add {n g : Nat} (hg : g < n) (hn : n ≤ 59) : (rH n g).idOf [sA (n + 1)] = n + 1 ∧ ((rH n g).add [sA (n + 1)]).len = n + 2 := by
  have hlen : (rH n g).es.length = n + 1 := by simp [rH, rE_len]
  have hl : (rH n g).look [sA (n + 1)] = none := by
    refine look_none_of fun i hi _ => ?_
    rw [hlen] at hi
    show ((((rE n).set (g + 1) noEnt).set (g + 1) ⟨[sA n], 1⟩).getD i noEnt).set ≠ _
    rw [rH_get hg]
    split
    · intro e
      have := sA_inj (by omega) (by omega) e
      omega
    · rw [rE_set hi]
      split
      · simp
      · intro e
        have := sA_inj (by omega) (by omega) e
        omega
  unfold TabS.add TabS.idOf
  rw [hl]
  refine ⟨hlen, ?_⟩
  show ((rH n g).es ++ [_]).length - 0 = n + 2
  simp [hlen]
end Go.Proofs.YtiobcifpebehnaaDoor
