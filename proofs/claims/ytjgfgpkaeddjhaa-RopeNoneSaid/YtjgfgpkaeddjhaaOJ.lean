
import Derived.Test.YtjgfgpkaeddjhaaOI
/- OJ: the reference: Same, Code, Of, Newlines -/
namespace Go.Proofs.Ytjgfgpkaeddjhaa
open Go.RowKit
set_option linter.unusedVariables false

def sameB9 (xs ys : List Int) : Bool := decide (xs = ys)

theorem same9_ne (xs ys : List Int) (k : Nat) (h1 : k < xs.length) (h2 : k < ys.length) (h : xs.getD k 0 ≠ ys.getD k 0) : sameB9 xs ys = false := by
  unfold sameB9
  rw [decide_eq_false_iff_not]
  rintro rfl
  exact h rfl
theorem same9_eq (xs ys : List Int) (h1 : xs.length = ys.length) (h : xs.take xs.length = ys.take xs.length) : sameB9 xs ys = true := by
  unfold sameB9
  rw [decide_eq_true_iff]
  rw [List.take_of_length_le (Nat.le_refl _), h1, List.take_of_length_le (Nat.le_refl _)] at h
  exact h

set_option maxHeartbeats 400000 in
theorem same9_any (v1 v2 : Value) (xs ys : List Int) (w : World) (hv1 : Ints .i32 w v1 xs) (hv2 : Ints .i32 w v2 ys) :
    Calls Try.prog 24 #[v1, v2] w fun e w' => e = .returned (.bool (sameB9 xs ys)) ∧ ∃ n, w' = w.drewN n := by
  have l1 := hv1.len
  have l2 := hv2.len
  by_cases hlen : xs.length = ys.length
  · rcases hv1 with ⟨a, cap, rfl, rfl, hm, _⟩ | ⟨b, off, cap, rfl, h0, h1, hm, hc⟩
    · obtain rfl : ys = [] := List.eq_nil_of_length_eq_zero hlen.symm
      obtain ⟨a2, cap2, rfl⟩ := hv2.shape
      clear hv2 hlen l1 l2
      go_enter Try.func24, Try.ntmps24
      go_wp2
      refine wp_loop_rounds 1 ?_
      rw [rounds_succ]
      go_wp2
      go_ret
      exact ⟨rfl, 0, rfl⟩
    · rcases hv2 with ⟨a, cap2, rfl, rfl, hm2, _⟩ | ⟨b2, off2, cap2, rfl, h02, h12, hm2, hc2⟩
      · simp at hlen; subst hlen; simp at h0
      · have hq : ((xs.length : Int) == ys.length) = true := by rw [hlen]; simp
        have hq2 : ((xs.length : Int) != ys.length) = false := by rw [hlen]; simp
        have HL := Lib.hid hlen
        have hle : xs.length ≤ ys.length := by omega
        unfold maxLen at hm hm2
        clear hlen
        go_enter Try.func24, Try.ntmps24
        go_wp2
        go_loopw [5] (fun i wr => ∃ k n : Nat, k ≤ xs.length ∧ i = .int .i64 k ∧ Hid (xs.take k = ys.take k) ∧ wr = w.drewN n) (fun i _ => xs.length - (intOf i).toNat)
        case atStart => exact ⟨0, 0, Nat.zero_le _, rfl, by simp [Hid], rfl⟩
        case round =>
          obtain ⟨k, n, hk, rfl, ht, rfl⟩ := hrel
          by_cases hlt : k < xs.length
          · have hcx := hc k hlt
            have hcy := hc2 k (by omega)
            clear hc hc2
            have HK : xs.getD k 0 = ys.getD k 0 → Hid (xs.take (k + 1) = ys.take (k + 1)) := fun he => by
              show xs.take (k + 1) = ys.take (k + 1)
              rw [take_snoc xs k hlt, take_snoc ys k (by omega), ht.out, he]
            have HF := same9_ne xs ys k hlt (by omega)
            generalize xs.getD k 0 = x at hcx HK HF
            generalize ys.getD k 0 = y at hcy HK HF
            by_cases he : x = y
            · have HT := HK he
              have hq3 : (x != y) = false := by simp [he]
              have hq4 : (x == y) = true := by simp [he]
              clear HK HF he ht
              go_wp2
              go_quiet (fail)
              go_wp2
              go_roundw
              case rel => exact ⟨k + 1, n + nq, by omega, by go_num, HT, rfl⟩
              case measure => simp [intOf]; omega
            · have HT := Lib.hid (HF he)
              have hq3 : (x != y) = true := by simp [he]
              have hq4 : (x == y) = false := by simp [he]
              clear HK HF he ht
              go_wp2
              go_quiet (fail)
              go_wp2
              go_ret
              exact ⟨ret_bool HT.out.symm, n + nq, World.drewN_drewN _ _ _⟩
          · go_wp2
            go_ret
            obtain rfl : k = xs.length := by omega
            exact ⟨ret_bool (same9_eq xs ys HL.out ht.out).symm, n, rfl⟩
  · have hq : ((xs.length : Int) == ys.length) = false := by simp; omega
    have hq2 : ((xs.length : Int) != ys.length) = true := by simp; omega
    have hf : sameB9 xs ys = false := by unfold sameB9; rw [decide_eq_false_iff_not]; rintro rfl; exact hlen rfl
    obtain ⟨a1, cap1, rfl⟩ := hv1.shape
    obtain ⟨a2, cap2, rfl⟩ := hv2.shape
    rw [hf]
    clear hf hv1 hv2
    go_enter Try.func24, Try.ntmps24
    go_wp2
    go_ret
    exact ⟨rfl, 0, rfl⟩

theorem rcode_of {r : Int} {a b c d : Bool} (h1 : decide (r < 0) = a) (h2 : decide (1114111 < r) = b) (h3 : decide (r < 55296) = c) (h4 : decide (57343 < r) = d) : code r = (!a && !b && (c || d)) := by
  subst h1 h2 h3 h4
  unfold code
  by_cases q1 : r < 0 <;> by_cases q2 : 1114111 < r <;> by_cases q3 : r < 55296 <;> by_cases q4 : 57343 < r <;> simp [q1, q2, q3, q4] <;> omega
theorem rcode_any (r : Int) (w : World) : Calls Try.prog 37 #[.int .i32 r] w fun e w' => e = .returned (.bool (code r)) ∧ w' = w := by
  obtain ⟨a, ha⟩ : ∃ a, decide (r < 0) = a := ⟨_, rfl⟩
  obtain ⟨b, hb⟩ : ∃ b, decide (1114111 < r) = b := ⟨_, rfl⟩
  obtain ⟨c, hc⟩ : ∃ c, decide (r < 55296) = c := ⟨_, rfl⟩
  obtain ⟨d, hd⟩ : ∃ d, decide (57343 < r) = d := ⟨_, rfl⟩
  rw [rcode_of ha hb hc hd]
  cases a <;> cases b <;> cases c <;> cases d <;>
  (go_enter Try.func37, Try.ntmps37
   go_wp2
   go_ret
   exact ⟨rfl, rfl⟩)

/-- Where the newlines are, as the reference tells them. -/
def posI (l : List Int) (k : Nat) : List Int := (pos l k).map (fun j : Nat => (j : Int))
theorem posI_yes {l : List Int} {k : Nat} (hk : k < l.length) (h : (l.getD k 0 == 10) = true) : posI l (k + 1) = posI l k ++ [(k : Int)] := by
  have h' : ((slots l).getD k 0 == 11) = true := by rw [slots_in hk, beq_iff_eq]; rw [beq_iff_eq] at h; omega
  unfold posI
  rw [pos_succ, if_pos h', List.map_append]; rfl
theorem posI_no {l : List Int} {k : Nat} (hk : k < l.length) (h : (l.getD k 0 == 10) = false) : posI l (k + 1) = posI l k := by
  have h' : ¬ ((slots l).getD k 0 == 11) = true := by rw [slots_in hk, beq_iff_eq]; rw [beq_eq_false_iff_ne] at h; omega
  unfold posI
  rw [pos_succ, if_neg h', List.append_nil]
theorem pos_stop (l : List Int) : ∀ n, pos l (l.length + n) = pos l l.length
  | 0 => rfl
  | n + 1 => by
    rw [← Nat.add_assoc, pos_succ, if_neg (by rw [slots_out (by omega)]; decide), List.append_nil, pos_stop l n]
theorem pos_all {l : List Int} (h : l.length ≤ 32) : pos l 32 = pos l l.length := by
  have := pos_stop l (32 - l.length)
  rwa [show l.length + (32 - l.length) = 32 by omega] at this
theorem posI_len (l : List Int) (k : Nat) : (posI l k).length = nl (l.take k) := by unfold posI; rw [List.length_map, pos_length]
theorem info64 : (Try.prog.info? 3).map (fun i => (i.zero, i.size, i.bytes)) = some (some (.int .i64 0), 1, 8) := by kernel_rfl
theorem cell_new (w : World) (x : Value) (t : TypeId) : ∀ j u, [x][j]? = some u → (w.alloc (.cells #[x] t)).cell? ((⟨w.heap.size, 0, none⟩ : Addr).add j) = some u := by
  intro j u hj
  match j, hj with
  | 0, hj => simp at hj; subst hj; simp [Addr.add]

end Go.Proofs.Ytjgfgpkaeddjhaa
