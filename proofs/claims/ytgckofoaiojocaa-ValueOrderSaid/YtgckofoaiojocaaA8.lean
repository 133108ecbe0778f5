
import Derived.Test.YtgckofoaiojocaaA7
namespace Go.Proofs.Ytgckofoaiojocaa
open Go.RowKit
set_option linter.unusedVariables false

theorem size_bl (bs : List Int) : (strOfNums bs).size = (bl bs).length := by rw [bl_len, strOfNums_size]

theorem repl_list : (⟨#[239, 191, 189]⟩ : ByteArray).data.toList = [239, 191, 189] := rfl
/-- strings.HasPrefix of the replacement's bytes, its answer known. -/
theorem prefix_at (s p : ByteArray) (w : World) (b : Bool) (h : Lib.hasPrefix s.data.toList p.data.toList = b) :
    Calls Try.prog 35 #[.string s, .string p] w fun e w' => e = .returned (.bool b) ∧ w = w' :=
  (Try.strings_HasPrefix s p w).mono fun _ _ ⟨he, hw⟩ => ⟨by rw [he, h], hw.symm⟩

/-- All that a round of Read asks, in plain words. -/
theorem read_facts {bs : List Int} {s : ByteArray} {pos : Nat} {acc : List Int} (hsl : s.data.toList = bl bs) (hp : pos < s.size) (hacc : (readL ((bl bs).drop pos)).map (fun t => acc ++ t) = readL (bl bs)) :
    ∃ (r : Int) (r' wd : Nat), Utf8.decode s pos = (r', wd) ∧ (r' : Int) = r ∧ 0 ≤ r ∧ r ≤ 1114111 ∧ 1 ≤ wd ∧ pos + wd ≤ s.size ∧
      (r ≠ 65533 → (readL ((bl bs).drop (pos + wd))).map (fun t => (acc ++ [r]) ++ t) = readL (bl bs)) ∧
      (r = 65533 → (Lib.hasPrefix (s.extract pos s.size).data.toList (⟨#[239, 191, 189]⟩ : ByteArray).data.toList = true ∧ (readL ((bl bs).drop (pos + wd))).map (fun t => (acc ++ [r]) ++ t) = readL (bl bs)) ∨
        (Lib.hasPrefix (s.extract pos s.size).data.toList (⟨#[239, 191, 189]⟩ : ByteArray).data.toList = false ∧ readL (bl bs) = none)) := by
  have hpl : pos < (bl bs).length := by rw [← hsl, ← Lib.size_eq]; exact hp
  have hne : (bl bs).drop pos ≠ [] := by
    intro h0
    have := congrArg List.length h0
    rw [List.length_drop, List.length_nil] at this
    omega
  have hdec := Lib.decodeL_drop s pos
  rw [hsl] at hdec
  have hw1 := Lib.decode_width_pos s pos hp
  have hwl := Lib.decodeL_le _ hne
  have hrl := Lib.rune_le s pos
  have hon := read_on (bl bs) pos acc hpl
  have hoff := read_off (bl bs) pos acc hpl
  have hpre1 := repl_prefix ((bl bs).drop pos) hne
  have hpre2 := prefix_repl ((bl bs).drop pos)
  have hex : (s.extract pos s.size).data.toList = (bl bs).drop pos := by rw [Lib.extract_data, List.take_of_length_le (by rw [List.length_drop, ← Lib.size_eq]; exact Nat.le_refl _), hsl]
  rw [hex, repl_list]
  rw [hdec] at hwl hon hoff hpre1 hpre2
  obtain ⟨r', wd, hd⟩ : ∃ r' wd, Utf8.decode s pos = (r', wd) := ⟨_, _, rfl⟩
  rw [hd] at hwl hon hoff hpre1 hpre2 hw1 hrl
  dsimp only at hwl hon hoff hpre1 hpre2 hw1 hrl
  rw [List.length_drop] at hwl
  have hsz : s.size = (bl bs).length := by rw [Lib.size_eq, hsl]
  refine ⟨r', r', wd, hd, rfl, by omega, by omega, hw1, by omega, fun h => hon (by omega) hacc, fun h => ?_⟩
  by_cases h1 : wd = 1
  · refine .inr ⟨?_, hoff ⟨by omega, h1⟩ hacc⟩
    cases hh : Lib.hasPrefix ((bl bs).drop pos) [239, 191, 189] with
    | false => rfl
    | true => have := hpre2 hh; omega
  · exact .inl ⟨hpre1 (by omega) h1, hon (by omega) hacc⟩

theorem conv_ints (v : Value) (bs : List Int) (w : World) (hv : Ints .u8 w v bs) : (convert 54 9 v).run Try.prog w = .ok (.string (strOfNums bs)) w := by
  rcases hv with ⟨a, cap, rfl, rfl, hm, ha⟩ | ⟨b, off, cap, rfl, h0, h1, hm, hc⟩
  · cases a with
    | none => exact run_convert_bytes_nil w _ _ Try.underlying54 Try.underlying5 0 cap _ Try.underlying9
    | some x =>
      rw [run_convert_bytes_string w _ _ _ _ 0 cap Try.underlying54 Try.underlying5 Try.underlying9, run_bytesToString w x 0 cap [] (by simpa using run_loadCells_list (P := Try.prog) w x [] (by intro j v hj; simp at hj))]
      rfl
  · exact run_convert_bytes_arg w _ _ Try.underlying54 Try.underlying5 b off bs.length cap bs rfl hc _ Try.underlying9

set_option maxHeartbeats 4000000 in
set_option maxRecDepth 100000 in
theorem read_any (v : Value) (bs : List Int) (w : World) (hv : Ints .u8 w v bs) (hlen : bs.length ≤ 1000000) :
    Calls Try.prog 31 #[v] w (ReadPost w.heap.size bs w) := by
  obtain ⟨i0, hi, hz0, hz1, hz2⟩ := info_parts info21
  obtain ⟨s, hs⟩ : ∃ s, strOfNums bs = s := ⟨_, rfl⟩
  have hsl : s.data.toList = bl bs := by rw [← hs]; rfl
  have hsz : s.size = bs.length := by rw [← hs, strOfNums_size]
  have hss : s.size ≤ 1000000 := by omega
  have hconv : ∀ w', w' = w → (convert 54 9 v).run Try.prog w' = .ok (.string s) w' := by
    rintro w' rfl
    rw [← hs]
    exact conv_ints v bs w' hv
  obtain ⟨a, cap, hva⟩ := hv.shape
  subst hva
  have hcv := hconv w rfl
  obtain ⟨B, hB⟩ : ∃ B, w.heap.size = B := ⟨_, rfl⟩
  have HB := Lib.hid hB
  have HSL := Lib.hid hsl
  have HSZ := Lib.hid hsz
  rw [hB]
  have hBle : B ≤ w.heap.size := by omega
  have hrc := Lib.runeCount_le s
  clear hB hs hconv hv hsl hsz
  go_enter Try.func31, Try.ntmps31
  go_wp2_with (go_at_call 34; refine (Try.utf8_RuneCountInString s _ (by omega)).mono ?_)
  rintro e w1 ⟨rfl, p0, rfl⟩
  go_wp2_with (at_make; refine wpList_make_own _ rfl _ _ 51 rfl B 21 i0 (.int .i32 0) 1 Try.underlying51 hi hz0 hz1 _ _ _ (Lib.runeCount s) rfl rfl (by omega) (by rw [hz2]; omega) (by unfold maxLen; omega) (by simp [World.iter]; omega) ?_; intro w0 hown0 hgrow0)
  go_loopw [5] (fun v wr => ∃ (pos : Nat) (acc : List Int) (n : Nat), wr.ownsRow B 21 1 v n (acc.map (Value.int .i32)) ∧ wr.heap[w0.heap.size]? = some (.stringIter s pos) ∧ Below B w wr ∧ Hid ((readL ((bl bs).drop pos)).map (fun t => acc ++ t) = readL (bl bs)) ∧ acc.length ≤ pos ∧ pos ≤ s.size) (fun _ wr => s.size - wr.iterPos w0.heap.size)
  case atStart =>
    refine ⟨0, [], 0, hown0.alloc _, World.iter_heap _ _ _, ?_, by simp [Hid], by simp, by omega⟩
    have h1 : Below B w (w.iter s p0) := (Below.refl _ _).alloc (by omega) _
    have h2 := h1.grown hgrow0 (by simp [World.iter]; omega) (fun k h => by cases h)
    exact h2.alloc (by have := h2.size; omega) _
  case round =>
    obtain ⟨pos, acc, n, hown, hit, hb, hacc, hal, hps⟩ := hrel
    have hszr : w0.heap.size < wr.heap.size := (Array.getElem?_eq_some_iff.1 hit).1
    by_cases hp : pos < s.size
    · obtain ⟨r, r', wd, hd, hrr, hr0, hr1, hw1, hwl, hne, heq⟩ := read_facts HSL.out hp hacc.out
      have hnx : ∀ ty, (Instr.next (.pointer (some ⟨w0.heap.size, 0, none⟩)) true ty).run Try.prog wr = .ok (.tuple #[.bool true, .int .i64 pos, .int .i32 r]) (wr.iterAt w0.heap.size s (pos + wd)) := fun ty => by
        rw [← hrr, Lib.run_next_any_at wr w0.heap.size s pos ty hit hp, hd]
      have hown2 := owns_iterAt (p2 := pos + wd) hown hit
      obtain ⟨W, hW⟩ : ∃ W, wr.iterAt w0.heap.size s (pos + wd) = W := ⟨_, rfl⟩
      have hWs : W.heap.size = wr.heap.size := by rw [← hW, Lib.iterAt_size]
      rw [hW] at hnx hown2
      have HW := Lib.hid hW
      have HD := Lib.hid hd
      have HN := Lib.hid hne
      have HE := Lib.hid heq
      have hBW : B ≤ W.heap.size := by have := hb.size; omega
      have HWS := Lib.hid hWs
      have hn : n ≤ 1000000 := by have e := hown.1; simp at e; omega
      clear hd hrr hne heq hW hWs
      have fin : ∀ (K : Hid ((readL ((bl bs).drop (pos + wd))).map (fun t => (acc ++ [r]) ++ t) = readL (bl bs))) (v' : Value) (w1 : World), w1.ownsRow B 21 1 v' (n + 1) (acc.map (Value.int .i32) ++ [.int .i32 r]) → (W.alloc (.cells #[.int .i32 r] 21)).grownBy w1 u5.ownBlock →
          (∃ (pos : Nat) (acc : List Int) (n : Nat), w1.ownsRow B 21 1 v' n (acc.map (Value.int .i32)) ∧ w1.heap[w0.heap.size]? = some (.stringIter s pos) ∧ Below B w w1 ∧ Hid ((readL ((bl bs).drop pos)).map (fun t => acc ++ t) = readL (bl bs)) ∧ acc.length ≤ pos ∧ pos ≤ s.size) ∧
          s.size - w1.iterPos w0.heap.size < s.size - wr.iterPos w0.heap.size := by
        intro K v' w1 h1 hg
        have hBK : B ≤ w0.heap.size := by have := hgrow0.size; simp [World.iter] at this; omega
        have R := read_round HB.out HW.out hit hBK (HW.out.symm ▸ hown2) hb h1 hg
        refine ⟨⟨pos + wd, acc ++ [r], n + 1, R.1, R.2.1, R.2.2, K, by simp; omega, hwl⟩, ?_⟩
        simp only [World.iterPos, R.2.1, hit]
        omega
      have FIN := Lib.hid fin
      clear fin
      by_cases hz : r = 65533
      · subst hz
        rcases HE.out rfl with ⟨hp1, K0⟩ | ⟨hp1, K0⟩
        · have HP := Lib.hid hp1
          have K := Lib.hid K0
          clear HN HE hp1 K0
          go_wp2_with (first
            | (go_at_call 35; refine (prefix_at _ _ _ _ HP.out).mono ?_; rintro e w' ⟨rfl, rfl⟩)
            | (at_builtin; refine wpList_append_own _ rfl _ _ 51 rfl B 21 i0 (.int .i32 0) 1 4 Try.underlying51 hi hz0 hz1 hz2 rfl (by decide) _ _ _ rfl (hown2.alloc _) ⟨W.heap.size, 0, none⟩ 1 1 [.int .i32 65533] rfl rfl (cell_new _ _ _) (by intro u hu; simp at hu; subst hu; rfl) (by unfold maxLen; omega) (by omega) (by simp; omega) ?_; intro v' w1 hown1 hgrow1 _))
          have R := FIN.out K v' w1 hown1 hgrow1
          clear hown1 hgrow1
          go_wp2
          go_roundw
          case rel => exact R.1
          case measure => exact R.2
        · have HP := Lib.hid hp1
          have K := Lib.hid K0
          have hbw : Below B w W := HW.out ▸ Lib.below_iterAt hb (by have := hgrow0.size; simp [World.iter] at this; omega) s (pos + wd)
          clear HN HE hp1 K0 FIN
          go_wp2_with (go_at_call 35; refine (prefix_at _ _ _ _ HP.out).mono ?_; rintro e w' ⟨rfl, rfl⟩)
          go_ret2
          exact ⟨HB.out.symm ▸ hbw, .inr ⟨K.out, rfl⟩⟩
      · have hq : (r == 65533) = false := by simp [hz]
        have K := Lib.hid (HN.out hz)
        clear HN HE hz
        go_wp2_with (at_builtin; refine wpList_append_own _ rfl _ _ 51 rfl B 21 i0 (.int .i32 0) 1 4 Try.underlying51 hi hz0 hz1 hz2 rfl (by decide) _ _ _ rfl (hown2.alloc _) ⟨W.heap.size, 0, none⟩ 1 1 [.int .i32 r] rfl rfl (cell_new _ _ _) (by intro u hu; simp at hu; subst hu; rfl) (by unfold maxLen; omega) (by omega) (by simp; omega) ?_; intro v' w1 hown1 hgrow1 _)
        have R := FIN.out K v' w1 hown1 hgrow1
        clear hown1 hgrow1
        go_wp2
        go_roundw
        case rel => exact R.1
        case measure => exact R.2
    · have hnx : ∀ ty, (Instr.next (.pointer (some ⟨w0.heap.size, 0, none⟩)) true ty).run Try.prog wr = _ := fun ty => Lib.run_next_end_at wr w0.heap.size s pos ty hit hp
      have HR := Lib.hid (read_end (bl bs) pos acc (by rw [← size_bl]; have := HSZ.out; rw [strOfNums_size]; omega) hacc.out)
      go_wp2
      go_ret2
      exact ⟨HB.out.symm ▸ hb, .inl ⟨acc, _, _, HR.out, rfl, hown⟩⟩
end Go.Proofs.Ytgckofoaiojocaa
