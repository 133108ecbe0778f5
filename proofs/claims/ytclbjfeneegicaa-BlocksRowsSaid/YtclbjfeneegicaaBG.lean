
import Derived.Test.YtclbjfeneegicaaBF
/- BG: tame; the known case -/
namespace Go.Proofs.Ytclbjfeneegicaa
open Go.RowKit
set_option linter.unusedVariables false
set_option maxRecDepth 100000

/-- What is looked at of a block. -/
def TameB (z : Bz) : Prop := 0 ≤ z.n ∧ z.n ≤ 1099511627776 ∧ z.s.length ≤ 30
instance (z : Bz) : Decidable (TameB z) := by unfold TameB; infer_instance
def Tame (zs : List Bz) : Prop := zs.length ≤ 200 ∧ ∀ z ∈ zs, TameB z
instance (zs : List Bz) : Decidable (Tame zs) := by unfold Tame; infer_instance
theorem tame_step {zs : List Bz} {k : Nat} (h : k < zs.length) (hp : ∀ z ∈ zs.take k, TameB z) (hz : TameB zs[k]) : ∀ z ∈ zs.take (k + 1), TameB z := by
  intro z hm
  rw [List.take_succ_eq_append_getElem h] at hm
  rcases List.mem_append.1 hm with hm | hm
  · exact hp z hm
  · obtain rfl := List.mem_singleton.1 hm
    exact hz
theorem tame_bad {zs : List Bz} {k : Nat} (h : k < zs.length) (hz : ¬ TameB zs[k]) : ¬ Tame zs := fun ht => hz (ht.2 _ (List.getElem_mem h))
theorem tame_any (v : Value) (zs : List Bz) (w : World) (hv : Zrow w v zs) :
    Calls Try.prog 8 #[v] w fun e w' => e = .returned (.bool (decide (Tame zs))) ∧ w' = w := by
  have hlen : zs.length ≤ 9223372036854775807 := hv.row.len
  obtain ⟨va, vc, rfl⟩ := hv.shape
  by_cases hl : zs.length ≤ 200
  · have g0 : decide ((200 : Int) < (zs.length : Int)) = false := by rw [decide_eq_false_iff_not]; omega
    have HV := Lib.hid hv
    have HL := Lib.hid hl
    clear hv hl
    go_enter Try.func8, Try.ntmps8
    go_wp2
    go_loop [9] (fun i => ∃ k : Nat, k ≤ zs.length ∧ i = .int .i64 k ∧ Hid (∀ z ∈ zs.take k, TameB z)) (fun i => zs.length - (intOf i).toNat)
    case atStart => exact ⟨0, Nat.zero_le _, rfl, Lib.hid (by simp)⟩
    case round =>
      obtain ⟨k, hk, rfl, HP⟩ := hrel
      by_cases hlt : k < zs.length
      · obtain ⟨b, off, rfl, -, -, -, hbl, hat⟩ := HV.out.opn (by omega)
        obtain ⟨c0, c1, -⟩ := hat k hlt
        have g7 : decide ((k : Int) < (zs.length : Int)) = true := by rw [decide_eq_true_iff]; omega
        have HST := Lib.hid (fun h => tame_step hlt HP.out h)
        have HBD := Lib.hid (fun h => tame_bad hlt h)
        obtain ⟨z, hz⟩ : ∃ z, zs[k] = z := ⟨_, rfl⟩
        rw [hz] at c0 c1 HST HBD
        clear hat hz
        by_cases h1 : z.n < 0
        · have g1 : decide (z.n < 0) = true := decide_eq_true h1
          have HB := Lib.hid (HBD.out (fun h => by have := h.1; omega))
          clear HST HBD
          go_wp2
          go_ret
          exact ⟨dec_no HB.out, rfl⟩
        · have g1 : decide (z.n < 0) = false := decide_eq_false h1
          by_cases h2 : 1099511627776 < z.n
          · have g2 : decide (1099511627776 < z.n) = true := decide_eq_true h2
            have HB := Lib.hid (HBD.out (fun h => by have := h.2.1; omega))
            clear HST HBD
            go_wp2
            go_ret
            exact ⟨dec_no HB.out, rfl⟩
          · have g2 : decide (1099511627776 < z.n) = false := decide_eq_false h2
            by_cases h3 : 30 < z.s.length
            · have g3 : decide ((30 : Int) < (z.s.length : Int)) = true := by rw [decide_eq_true_iff]; omega
              have HB := Lib.hid (HBD.out (fun h => by have := h.2.2; omega))
              clear HST HBD
              go_wp2
              go_ret
              exact ⟨dec_no HB.out, rfl⟩
            · have g3 : decide ((30 : Int) < (z.s.length : Int)) = false := by rw [decide_eq_false_iff_not]; omega
              have HB := Lib.hid (HST.out ⟨by omega, by omega, by omega⟩)
              clear HST HBD
              go_wp2
              go_round
              case rel => exact ⟨k + 1, by omega, by go_num, HB⟩
              case measure => simp [intOf]; omega
      · obtain rfl : k = zs.length := by omega
        have g7 : decide ((zs.length : Int) < (zs.length : Int)) = false := by rw [decide_eq_false_iff_not]; omega
        have HE := Lib.hid (show Tame zs from ⟨HL.out, by have := HP.out; rwa [List.take_of_length_le (Nat.le_refl _)] at this⟩)
        clear HP
        go_wp2
        go_ret
        exact ⟨dec_yes HE.out, rfl⟩
  · have g0 : decide ((200 : Int) < (zs.length : Int)) = true := by rw [decide_eq_true_iff]; omega
    have HN := Lib.hid (show ¬ Tame zs from fun h => hl h.1)
    clear hv hl
    go_enter Try.func8, Try.ntmps8
    go_wp2
    go_ret
    exact ⟨dec_no HN.out, rfl⟩

/-! ### the known case -/
def knA : Att := ⟨1, 1, 1, 0, ⟨#[]⟩⟩
def knZ (g : Nat) : List Bz := [⟨2, some ⟨g, 0, none⟩, 1, [knA]⟩, ⟨0, none, 0, []⟩, ⟨3, some ⟨g, 0, none⟩, 1, [knA]⟩]
def knC (g : Nat) : List Cz := [⟨97, some ⟨g, 0, none⟩, 1, [knA]⟩, ⟨98, some ⟨g, 0, none⟩, 1, [knA]⟩, ⟨10, none, 0, []⟩, ⟨99, none, 0, []⟩]
theorem kn_row (w : World) : Arow (w.alloc (.cells (aca knA) 39)) (.slice (some ⟨w.heap.size, 0, none⟩) 1 1) [knA] := Row.built (C := attC) w _ [knA] (by simp [maxLen])
theorem kn_zrow (g : Nat) (w : World) (h : Arow w (.slice (some ⟨g, 0, none⟩) 1 1) [knA]) : Zrow (w.alloc (.cells #[.int .i64 2, .slice (some ⟨g, 0, none⟩) 1 1, .int .i64 0, .slice none 0 0, .int .i64 3, .slice (some ⟨g, 0, none⟩) 1 1] 34)) (.slice (some ⟨w.heap.size, 0, none⟩) 3 3) (knZ g) := by
  refine ⟨Row.built (C := bzC) w _ (knZ g) (by simp [maxLen, knZ]), fun z hz => ?_⟩
  have hb : Below w.heap.size w (w.alloc (.cells #[.int .i64 2, .slice (some ⟨g, 0, none⟩) 1 1, .int .i64 0, .slice none 0 0, .int .i64 3, .slice (some ⟨g, 0, none⟩) 1 1] 34)) := (Below.refl _ _).alloc (Nat.le_refl _) _
  simp only [knZ, List.mem_cons, List.not_mem_nil, or_false] at hz
  rcases hz with rfl | rfl | rfl
  · exact h.below hb (Nat.le_refl _)
  · exact Row.nil _
  · exact h.below hb (Nat.le_refl _)
theorem kn_crow (g : Nat) (w : World) (h : Arow w (.slice (some ⟨g, 0, none⟩) 1 1) [knA]) : Crow (w.alloc (.cells #[.int .i32 97, .slice (some ⟨g, 0, none⟩) 1 1, .int .i32 98, .slice (some ⟨g, 0, none⟩) 1 1, .int .i32 10, .slice none 0 0, .int .i32 99, .slice none 0 0] 44)) (.slice (some ⟨w.heap.size, 0, none⟩) 4 4) (knC g) := by
  refine ⟨Row.built (C := czC) w _ (knC g) (by simp [maxLen, knC]), fun z hz => ?_⟩
  have hb : Below w.heap.size w (w.alloc (.cells #[.int .i32 97, .slice (some ⟨g, 0, none⟩) 1 1, .int .i32 98, .slice (some ⟨g, 0, none⟩) 1 1, .int .i32 10, .slice none 0 0, .int .i32 99, .slice none 0 0] 44)) := (Below.refl _ _).alloc (Nat.le_refl _) _
  simp only [knC, List.mem_cons, List.not_mem_nil, or_false] at hz
  rcases hz with rfl | rfl | rfl | rfl
  · exact h.below hb (Nat.le_refl _)
  · exact h.below hb (Nat.le_refl _)
  · exact Row.nil _
  · exact Row.nil _
theorem map_one {zs : List Bz} {a : Bk} (h : zs.map Bz.b = [a]) : ∃ z, zs = [z] ∧ z.n = a.n := by
  match zs, h with
  | [z], h => exact ⟨z, rfl, by simp only [List.map_cons, List.map_nil, List.cons.injEq, and_true] at h; rw [← h]; rfl⟩
theorem map_two {zs : List Bz} {a b : Bk} (h : zs.map Bz.b = [a, b]) : ∃ y z, zs = [y, z] ∧ y.n = a.n ∧ z.n = b.n := by
  match zs, h with
  | [y, z], h => exact ⟨y, z, rfl, by simp only [List.map_cons, List.map_nil, List.cons.injEq, and_true] at h; rw [← h.1]; rfl, by simp only [List.map_cons, List.map_nil, List.cons.injEq, and_true] at h; rw [← h.2]; rfl⟩
theorem kn_len (g : Nat) : (knZ g).length ≤ 1000 := by simp [knZ]
theorem kn_n (g : Nat) : ∀ z ∈ knZ g, z.n ≤ 1125899906842624 := fun z hz => by
  simp only [knZ, List.mem_cons, List.not_mem_nil, or_false] at hz
  rcases hz with rfl | rfl | rfl <;> simp
theorem kn_s (g : Nat) : ∀ z ∈ knZ g, z.s.length ≤ 1000 := fun z hz => by
  simp only [knZ, List.mem_cons, List.not_mem_nil, or_false] at hz
  rcases hz with rfl | rfl | rfl <;> simp
theorem knc_len (g : Nat) : (knC g).length ≤ 1000 := by simp [knC]
theorem knc_s (g : Nat) : ∀ z ∈ knC g, z.s.length ≤ 1000 := fun z hz => by
  simp only [knC, List.mem_cons, List.not_mem_nil, or_false] at hz
  rcases hz with rfl | rfl | rfl | rfl <;> simp
theorem kn_one (g : Nat) : Rep [⟨5, [knA]⟩] (ex ((knZ g).map Bz.b)) := ⟨⟨by decide, by simp, trivial⟩, rfl⟩
theorem kn_two (g : Nat) : Rep [⟨2, [knA]⟩, ⟨2, []⟩] ((knC g).map Cz.inl) := ⟨⟨by decide, by simp, by decide, by simp, trivial⟩, rfl⟩
theorem kn_tend {y z : Bz} (hy : y.n = 2) (hz : z.n = 2) : tend Bz.b 0 [y, z] = 4 := by
  have h1 : (Bz.b y).n = 2 := hy
  have h2 : (Bz.b z).n = 2 := hz
  simp [tend, h1, h2, tog]
  omega
set_option maxHeartbeats 4000000 in
theorem known_any (w : World) : Calls Try.prog 12 #[] w fun e w' => e = .returned (.bool true) ∧ Below w.heap.size w w' := by
  have hb1 := (Below.refl w.heap.size w).alloc (Nat.le_refl _) (.cells (aca knA) 39)
  have HZ := Lib.hid (kn_zrow _ _ (kn_row w))
  have HB2 := Lib.hid (hb1.alloc hb1.size (.cells #[.int .i64 2, .slice (some ⟨w.heap.size, 0, none⟩) 1 1, .int .i64 0, .slice none 0 0, .int .i64 3, .slice (some ⟨w.heap.size, 0, none⟩) 1 1] 34))
  have HJ := Lib.hid (join_any _ _ _ HZ.out (kn_len _) (kn_n _) (kn_s _))
  have HR := Lib.hid ((kn_row w).below ((Below.refl _ _).alloc (Nat.le_refl _) (.cells #[.int .i64 2, .slice (some ⟨w.heap.size, 0, none⟩) 1 1, .int .i64 0, .slice none 0 0, .int .i64 3, .slice (some ⟨w.heap.size, 0, none⟩) 1 1] 34)) (Nat.le_refl _))
  simp only [World.size_alloc] at HZ HJ
  clear hb1
  go_enter Try.func12, Try.ntmps12
  go_wp2_with (first
    | (go_at_call 14; refine HJ.out.mono ?_; rintro e w1 ⟨ja, jc, zs1, rfl, q1, q2, q3, q4⟩; obtain ⟨y, rfl, hy⟩ := map_one (q2.uniq (kn_one w.heap.size)); have HC := Lib.hid (kn_crow w.heap.size w1 (HR.out.below (q4.mono (by simp)) (Nat.le_refl _))); have HO := Lib.hid (of_any _ _ _ HC.out (knc_len _) (knc_s _)); have HQ := Lib.hid (And.intro q1 (And.intro hy q4)); clear q1 q2 q3 q4 hy)
    | (go_at_call 22; refine HO.out.mono ?_; rintro e w2 ⟨oa, oc, zs2, rfl, q1⟩; obtain ⟨y1, y2, rfl, h1, h2⟩ := map_two (q1.rep.uniq (kn_two w.heap.size)); have HQ2 := Lib.hid (And.intro q1 (And.intro h1 h2)); clear q1 h1 h2; refine Hid.out ?_))
  refine Lib.hid ?_
  have HBC := Lib.hid (show Below w1.heap.size w1 w2 from ((Below.refl w1.heap.size w1).alloc (Nat.le_refl _) _).trans (HQ2.out.1.bel.mono (by simp)))
  have HL1 := Lib.hid (HQ.out.1.zrow.below HBC.out)
  have HL2 := Lib.hid HQ2.out.1.own.zrow
  obtain ⟨b1, o1, rfl, -, -, -, -, hat1⟩ := HL1.out.opn (by simp)
  obtain ⟨b2, o2, rfl, -, -, -, -, hat2⟩ := HL2.out.opn (by simp)
  obtain ⟨c1, -, -⟩ := hat1 0 (by simp)
  obtain ⟨c2, -, -⟩ := hat2 1 (by simp)
  simp only [Nat.zero_mul, Nat.add_zero, List.getElem_cons_zero, List.getElem_cons_succ, Nat.one_mul] at c1 c2
  rw [HQ.out.2.1] at c1
  rw [HQ2.out.2.2] at c2
  have HLN := Lib.hid ((len_any _ _ _ HL2.out (by
    intro z hz
    simp only [List.mem_cons, List.not_mem_nil, or_false] at hz
    rcases hz with rfl | rfl
    · rw [HQ2.out.2.1]; decide
    · rw [HQ2.out.2.2]; decide)).mono fun e w' hh => (show e = .returned (.int .i64 4) ∧ Below w2.heap.size w2 w' from ⟨by rw [hh.1, kn_tend HQ2.out.2.1 HQ2.out.2.2], hh.2⟩))
  clear hat1 hat2
  go_wp2_with (go_at_call 11; refine HLN.out.mono ?_; rintro e w3 ⟨rfl, hb3⟩)
  go_ret
  have hbA := HB2.out.trans (HQ.out.2.2.mono (show w.heap.size ≤ w.heap.size + 1 + 1 by omega))
  have hbB := below_add hbA HBC.out hbA.size
  exact ⟨rfl, below_add hbB hb3 hbB.size⟩
end Go.Proofs.Ytclbjfeneegicaa
