
import Derived.Test.YtoiomijchchlnaaF5
/- F6: sums of lengths; the last cell -/
namespace Go.Proofs.Ytoiomijchchlnaa
open Go.RowKit
set_option linter.unusedVariables false

/-- An op at a place of a row. -/
def OAt (b o : Nat) (p : Opn) (w : World) : Prop := ∃ rl sl pl, p.rs.length = rl ∧ p.st.length = sl ∧ p.pt.length = pl ∧ ∃ ra rc sa sc pa pc,
  w.cell? ⟨b, o, none⟩ = some (.int .u8 p.k) ∧ w.cell? ⟨b, o + 1, none⟩ = some (.int .i64 p.n) ∧ w.cell? ⟨b, o + 2, none⟩ = some (.slice ra rl rc) ∧ w.cell? ⟨b, o + 3, none⟩ = some (.slice sa sl sc) ∧ w.cell? ⟨b, o + 4, none⟩ = some (.slice pa pl pc) ∧
  Ints .i32 w (.slice ra rl rc) p.rs ∧ Arow w (.slice sa sl sc) p.st ∧ Crow w (.slice pa pl pc) p.pt
theorem OAt.below {b o : Nat} {p : Opn} {w w' : World} (h : OAt b o p w) (hb : Below w.heap.size w w') : OAt b o p w' := by
  obtain ⟨rl, sl, pl, h1, h2, h3, ra, rc, sa, sc, pa, pc, c0, c1, c2, c3, c4, q1, q2, q3⟩ := h
  have hl : b < w.heap.size := World.block_lt_of_cell? w _ c0
  exact ⟨rl, sl, pl, h1, h2, h3, ra, rc, sa, sc, pa, pc, (hb.cell (p := ⟨b, _, none⟩) hl).trans c0, (hb.cell (p := ⟨b, _, none⟩) hl).trans c1, (hb.cell (p := ⟨b, _, none⟩) hl).trans c2, (hb.cell (p := ⟨b, _, none⟩) hl).trans c3, (hb.cell (p := ⟨b, _, none⟩) hl).trans c4, q1.below hb, q2.below hb (Nat.le_refl _), q3.below hb (Nat.le_refl _)⟩
theorem Orow.ats {w : World} {a : Option Addr} {n cap : Nat} {ls : List Opn} (h : Orow w (.slice a n cap) ls) (h0 : 0 < ls.length) :
    ∃ b off, a = some ⟨b, off, none⟩ ∧ n = ls.length ∧ ls.length ≤ cap ∧ cap ≤ maxLen ∧ b < w.heap.size ∧ ∀ j (hj : j < ls.length), OAt b (off + j * 5) ls[j] w := by
  obtain ⟨b, off, h1, h2, h3, h4, h5, hat⟩ := h.opn h0
  refine ⟨b, off, h1, h2, h3, h4, h5, fun j hj => ?_⟩
  obtain ⟨ra, rc, sa, sc, pa, pc, c0, c1, c2, c3, c4, q1, q2, q3⟩ := hat j hj
  exact ⟨_, _, _, rfl, rfl, rfl, ra, rc, sa, sc, pa, pc, c0, c1, c2, c3, c4, q1, q2, q3⟩

theorem cnt_1 {kd : Int} {p : Opn} (h : p.k = 1) : cnt kd p = true := by simp [cnt, h]
theorem cnt_k {kd : Int} {p : Opn} (h : p.k = kd) : cnt kd p = true := by simp [cnt, h]
theorem cnt_n {kd : Int} {p : Opn} (h1 : p.k ≠ 1) (h : p.k ≠ kd) : cnt kd p = false := by simp [cnt, h1, h]

set_option maxRecDepth 100000 in
set_option maxHeartbeats 4000000 in
theorem retained_any (kd : Int) (u : Value) (ls : List Opn) (w : World) (hv : Orow w u ls) :
    Calls Try.prog 17 #[.int .u8 kd, u] w fun e w' => e = .returned (.int .i64 (sumK kd ls)) ∧ Below w.heap.size w w' := by
  have hl : ls.length ≤ 9223372036854775807 := hv.len
  obtain ⟨a1, cap1, rfl⟩ := hv.shape
  by_cases h0 : 0 < ls.length
  rotate_left
  · obtain rfl : ls = [] := List.eq_nil_of_length_eq_zero (by omega)
    clear hv h0
    go_enter Try.func17, Try.ntmps17
    go_wp2
    refine wp_loop_rounds 1 ?_
    rw [rounds_succ]
    go_wp2
    go_ret
    exact ⟨rfl, Below.refl _ _⟩
  obtain ⟨b1, o1, rfl, -, -, -, hbl, hat⟩ := hv.ats h0
  have HAT := Lib.hid hat
  clear hv hat
  go_enter Try.func17, Try.ntmps17
  go_wp2
  go_loopw [5, 10] (fun s5 s10 wr => ∃ k : Nat, k ≤ ls.length ∧ s5 = .int .i64 (sumK kd (ls.take k)) ∧ s10 = .int .i64 k ∧ Hid (Below w.heap.size w wr)) (fun _ s10 _ => ls.length - (intOf s10).toNat)
  case atStart => exact ⟨0, Nat.zero_le _, rfl, rfl, Lib.hid (Below.refl _ _)⟩
  case round =>
    obtain ⟨k, hk, rfl, rfl, HR⟩ := hrel
    by_cases hlt : k < ls.length
    · have hoat := (HAT.out k hlt).below HR.out
      have hst := sum_step (kd := kd) hlt
      obtain ⟨hn0, hn1⟩ := sumK_rng kd (ls.take k)
      obtain ⟨hm0, hm1⟩ := sumK_rng kd (ls.take (k + 1))
      generalize sumK kd (ls.take k) = n at *
      have HLT := Lib.hid hlt
      generalize ls[k] = p at *
      have hlx0 := lenO_nn p
      have hlen : ∀ rl, p.rs.length = rl → lenK p.k p.n rl = lenO p := fun rl h => by rw [← h]; rfl
      have hc1 := @cnt_1 kd p
      have hck := @cnt_k kd p
      have hcn := @cnt_n kd p
      obtain ⟨rl, sl, pl, e1, e2, e3, ra, rc, sa, sc, pa, pc, c0, c1, c2, c3, c4, q1, q2, q3⟩ := hoat
      obtain ⟨lx, hlx⟩ : ∃ l, lenO p = l := ⟨_, rfl⟩
      have HL := Lib.hid (lenK_any p.k p.n rl ra rc sa sl sc pa pl pc lx (by rw [hlen rl e1, hlx]))
      rw [hlx] at hst hlx0
      have hrl := q1.len
      rw [e1] at hrl
      obtain ⟨pk, pn, prs, pst, ppt⟩ := p
      simp only at c0 c1 c2 c3 c4 HL hc1 hck hcn
      have HX := Lib.hid (kbelow_one wr (.cells (opcs pk pn ra rl rc sa sl sc pa pl pc) 41))
      have HB := Lib.hid (below_add HR.out HX.out HR.out.size)
      have HY := Lib.hid (OBox.box pk pn ra rl rc sa sl sc pa pl pc wr 41)
      clear q1 q2 q3 e1 e2 e3 hlen hlx hlt HR hrl
      by_cases hcc : cnt kd ⟨pk, pn, prs, pst, ppt⟩ = true
      · rw [if_pos hcc] at hst
        unfold sat at hst
        have HS := Lib.hid hst
        have hwho : pk = 1 ∨ (¬ pk = 1 ∧ pk = kd) := by
          simp only [cnt, Bool.or_eq_true, beq_iff_eq] at hcc
          omega
        clear hcc hc1 hck hcn
        by_cases hA : 9223372036854775807 - n < lx
        · rw [if_pos hA] at hst
          rw [if_pos hA] at HS
          rcases hwho with rfl | ⟨hne, rfl⟩
          · go_wp2_with (go_at_call 24; (with_reducible refine (HL.out _).mono ?_); rintro e w1 ⟨rfl, hb⟩; have HB1 := Lib.hid (below_add HB.out hb HB.out.size); clear hb)
            go_roundw
            case rel => exact ⟨k + 1, HLT.out, by rw [HS.out]; congr 1; omega, by go_num, HB1⟩
            case measure => have := HLT.out; simp [intOf]; omega
          · have e1 : (pk == 1) = false := by simpa using hne
            clear hne
            go_wp2_with (go_at_call 24; (with_reducible refine (HL.out _).mono ?_); rintro e w1 ⟨rfl, hb⟩; have HB1 := Lib.hid (below_add HB.out hb HB.out.size); clear hb)
            go_roundw
            case rel => exact ⟨k + 1, HLT.out, by rw [HS.out]; congr 1; omega, by go_num, HB1⟩
            case measure => have := HLT.out; simp [intOf]; omega
        · rw [if_neg hA] at hst
          rw [if_neg hA] at HS
          rcases hwho with rfl | ⟨hne, rfl⟩
          · go_wp2_with (go_at_call 24; (with_reducible refine (HL.out _).mono ?_); rintro e w1 ⟨rfl, hb⟩; have HB1 := Lib.hid (below_add HB.out hb HB.out.size); clear hb)
            go_roundw
            case rel => exact ⟨k + 1, HLT.out, by rw [HS.out]; congr 1; omega, by go_num, HB1⟩
            case measure => have := HLT.out; simp [intOf]; omega
          · have e1 : (pk == 1) = false := by simpa using hne
            clear hne
            go_wp2_with (go_at_call 24; (with_reducible refine (HL.out _).mono ?_); rintro e w1 ⟨rfl, hb⟩; have HB1 := Lib.hid (below_add HB.out hb HB.out.size); clear hb)
            go_roundw
            case rel => exact ⟨k + 1, HLT.out, by rw [HS.out]; congr 1; omega, by go_num, HB1⟩
            case measure => have := HLT.out; simp [intOf]; omega
      · rw [if_neg hcc] at hst
        have HS := Lib.hid hst
        have hne : ¬ pk = 1 ∧ ¬ pk = kd := by
          simp only [cnt, Bool.or_eq_true, beq_iff_eq] at hcc
          omega
        have e1 : (pk == 1) = false := by simpa using hne.1
        have e2 : (pk == kd) = false := by simpa using hne.2
        clear hcc hc1 hck hcn hne hst
        go_wp2
        go_roundw
        case rel => exact ⟨k + 1, HLT.out, by rw [HS.out], by go_num, HB⟩
        case measure => have := HLT.out; simp [intOf]; omega
    · obtain rfl : k = ls.length := by omega
      have HE := Lib.hid (show sumK kd (ls.take ls.length) = sumK kd ls by rw [List.take_length])
      go_wp2
      go_ret
      exact ⟨ret_int HE.out, HR.out⟩

theorem takes_any (u : Value) (ls : List Opn) (w : World) (hv : Orow w u ls) :
    Calls Try.prog 10 #[u] w fun e w' => e = .returned (.int .i64 (sumK 3 ls)) ∧ Below w.heap.size w w' := by
  have HR := Lib.hid (retained_any 3 u ls w hv)
  clear hv
  go_enter Try.func10, Try.ntmps10
  go_wp2_with (go_at_call 17; (with_reducible refine (HR.out).mono ?_); rintro e w1 ⟨rfl, hb⟩)
  go_ret
  exact ⟨rfl, hb⟩
theorem makes_any (u : Value) (ls : List Opn) (w : World) (hv : Orow w u ls) :
    Calls Try.prog 11 #[u] w fun e w' => e = .returned (.int .i64 (sumK 2 ls)) ∧ Below w.heap.size w w' := by
  have HR := Lib.hid (retained_any 2 u ls w hv)
  clear hv
  go_enter Try.func11, Try.ntmps11
  go_wp2_with (go_at_call 17; (with_reducible refine (HR.out).mono ?_); rintro e w1 ⟨rfl, hb⟩)
  go_ret
  exact ⟨rfl, hb⟩
end Go.Proofs.Ytoiomijchchlnaa
