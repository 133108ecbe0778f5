
import Derived.Test.YtjgfgpkaeddjhaaOB
/- OC: newlines in all; where the k-th one is; the rune at a place -/
namespace Go.Proofs.Ytjgfgpkaeddjhaa
open Go.RowKit
set_option linter.unusedVariables false

theorem newlines_any (l : List Int) (h : Chunky l) (w : World) : Calls Try.prog 64 #[cv l] w fun e w' => e = .returned (.int .i64 (nl l : Nat)) ∧ Below w.heap.size w w' := by
  have R := Lib.hid (rowAt_new w 58 (slots l))
  have hL := slots_len h.1
  have HA := Lib.hid (fun w => ahead_any l h 32 w)
  have HB := Lib.hid (show Below w.heap.size w (w.alloc (.cells (row (slots l)) 58)) from (Below.refl _ _).alloc (Nat.le_refl _) _)
  have h32 := h.1
  have hs : (row (slots l)).size = 32 := by rw [row_size, hL]
  unfold cv at *
  have HI := Lib.hid (show (Try.prog.info? 58).map (·.size) = some (row (slots l)).size by rw [hs]; exact info_chunk)
  clear h hL hs
  go_enter Try.func64, Try.ntmps64
  go_wp2_with (refine wpList_load_row rfl 58 _ rfl _ rfl _ _ _ _ R.out Try.underlying58 rfl HI.out ?_)
  go_wp2_with (go_at_call 32; refine (HA.out _).mono ?_; rintro e w1 ⟨rfl, b1⟩)
  go_ret
  exact ⟨ret_int (by rw [nl_all h32]), below_add HB.out b1 (by simp)⟩

/-- Where the newlines are, ahead of a place. -/
def pos (l : List Int) (n : Nat) : List Nat := (List.range n).filter (fun i => (slots l).getD i 0 == 11)
theorem pos_succ (l : List Int) (k : Nat) : pos l (k + 1) = pos l k ++ (if ((slots l).getD k 0 == 11) = true then [k] else []) := by
  unfold pos
  rw [List.range_succ, List.filter_append]
  congr 1
  simp only [List.filter_cons, List.filter_nil]
theorem pos_length (l : List Int) : ∀ k, (pos l k).length = nl (l.take k)
  | 0 => by simp [pos, nl]
  | k + 1 => by
    rw [pos_succ, List.length_append, pos_length l k]
    cases h : ((slots l).getD k 0 == 11) with
    | true => rw [nl_yes h]; simp
    | false => rw [nl_no h]; simp
theorem pos_past (l : List Int) : ∀ n k, ∃ r, pos l (k + n) = pos l k ++ r
  | 0, k => ⟨[], by simp⟩
  | n + 1, k => by
    obtain ⟨r, hr⟩ := pos_past l n k
    exact ⟨_, by rw [← Nat.add_assoc, pos_succ, hr, List.append_assoc]⟩
theorem pos_at {l : List Int} {j n : Nat} (h : ((slots l).getD j 0 == 11) = true) (hn : j < n) : (pos l n)[nl (l.take j)]? = some j := by
  obtain ⟨r, hr⟩ := pos_past l (n - (j + 1)) (j + 1)
  rw [show j + 1 + (n - (j + 1)) = n by omega, pos_succ, if_pos h] at hr
  rw [hr, List.append_assoc, List.getElem?_append_right (by rw [pos_length]; exact Nat.le_refl _), pos_length, Nat.sub_self]
  rfl
/-- Where the k-th newline is, if there is one. -/
def nlAt (l : List Int) (k : Int) : Option Nat := if k < 0 then none else (pos l 32)[k.toNat]?
theorem nlAt_yes {l : List Int} {j : Nat} {k : Int} (h : ((slots l).getD j 0 == 11) = true) (hj : j < 32) (hk : (nl (l.take j) : Int) = k) : nlAt l k = some j := by
  unfold nlAt
  rw [if_neg (by omega), show k.toNat = nl (l.take j) by omega, pos_at h hj]
theorem nlAt_no {l : List Int} {k : Int} (h : k < 0 ∨ (nl (l.take 32) : Int) ≤ k) : nlAt l k = none := by
  unfold nlAt
  split
  · rfl
  · rw [List.getElem?_eq_none_iff, pos_length]; omega
def nlVal (o : Option Nat) : Value := .tuple #[.int .i64 (o.getD 0 : Nat), .bool o.isSome]

theorem newlineAt_any (l : List Int) (h : Chunky l) (q : Int) (w : World) : Calls Try.prog 34 #[cv l, .int .i64 q] w fun e w' => e = .returned (nlVal (nlAt l q)) ∧ Below w.heap.size w w' := by
  obtain ⟨h32, hr⟩ := h
  have hL := slots_len h32
  have HB := Lib.hid (show Below w.heap.size w (w.alloc (.cells (row (slots l)) 58)) from (Below.refl _ _).alloc (Nat.le_refl _) _)
  have R := Lib.hid (rowAt_new w 58 (slots l))
  have YES := Lib.hid (fun k => nl_yes (l := l) (k := k))
  have NO := Lib.hid (fun k => nl_no (l := l) (k := k))
  obtain ⟨o, ho⟩ : ∃ o, nlAt l q = o := ⟨_, rfl⟩
  have AT := Lib.hid (fun j (h : ((slots l).getD j 0 == 11) = true) (hj : j < 32) (hk : (nl (l.take j) : Int) = q) => ho.symm.trans (nlAt_yes h hj hk))
  have AN := Lib.hid (fun (h : q < 0 ∨ (nl (l.take 32) : Int) ≤ q) => ho.symm.trans (nlAt_no h))
  rw [ho]
  clear ho hr
  unfold cv
  go_enter Try.func34, Try.ntmps34
  go_wp2
  go_loop [6, 8] (fun s6 s8 => ∃ k : Nat, k ≤ 32 ∧ s8 = .int .i64 k ∧ s6 = .int .i64 (nl (l.take k) : Nat) ∧ Hid (q < 0 ∨ (nl (l.take k) : Int) ≤ q)) (fun _ s8 => 32 - (intOf s8).toNat)
  case atStart => exact ⟨0, Nat.zero_le _, rfl, rfl, Lib.hid (by simp [nl]; omega)⟩
  case round =>
    obtain ⟨k, hk, rfl, rfl, HQ⟩ := hrel
    have hle := nl_take_le l k
    by_cases hlt : k < 32
    · have i0 : (0 : Int) ≤ (k : Int) := by omega
      have i2 : (k : Int) < 32 := by omega
      have hc := R.out.cell (j := k) (by omega)
      have y := Lib.hid (YES.out k)
      have n := Lib.hid (NO.out k)
      have at' := Lib.hid (AT.out k)
      obtain ⟨x, hx⟩ : ∃ x, (slots l).getD k 0 = x := ⟨_, rfl⟩
      obtain ⟨c, hcn⟩ : ∃ c, nl (l.take k) = c := ⟨_, rfl⟩
      rw [hx] at hc y n at'
      rw [hcn] at y n hle at' HQ ⊢
      clear hx R YES NO hcn AT AN
      by_cases hy : (x == 11) = true
      · have hz := y.out hy
        have hny : (x != 11) = false := by simp [bne, hy]
        by_cases hq : ((c : Int) == q) = true
        · have hox := at'.out hy hlt (by simpa using hq)
          subst hox
          clear y n at' hz
          go_wp2
          exact bodyPost_ret (by simp [results, Try.results34, go_sem, nlVal]) rfl ⟨rfl, HB.out⟩
        · rw [Bool.not_eq_true] at hq
          obtain ⟨d, hd⟩ : ∃ d, nl (l.take (k + 1)) = d := ⟨_, rfl⟩
          have HD := Lib.hid hd
          rw [hd] at hz
          subst hz
          have HE := Lib.hid (show q < 0 ∨ ((c + 1 : Nat) : Int) ≤ q by
            rw [beq_eq_false_iff_ne] at hq
            rcases HQ.out with h | h
            · exact .inl h
            · exact .inr (by omega))
          clear hd y n at' HQ
          go_wp2
          go_round
          case rel => exact ⟨k + 1, by omega, by go_num, by rw [HD.out]; rfl, by rw [HD.out]; exact HE⟩
          case measure => simp [intOf]; omega
      · rw [Bool.not_eq_true] at hy
        have hz := n.out hy
        have hny : (x != 11) = true := by simp [bne, hy]
        have HD := Lib.hid hz
        clear hz y n at'
        go_wp2
        go_round
        case rel => exact ⟨k + 1, by omega, by go_num, by rw [HD.out], by rw [HD.out]; exact HQ⟩
        case measure => simp [intOf]; omega
    · obtain rfl : k = 32 := by omega
      have hox := AN.out HQ.out
      subst hox
      clear R YES NO AT AN
      go_wp2
      exact bodyPost_ret (by simp [results, Try.results34, go_sem, nlVal]) rfl ⟨rfl, HB.out⟩
end Go.Proofs.Ytjgfgpkaeddjhaa
