
import Derived.Test.YtmbjjaflgdfihaaR7
/- R8: the bound that the laws of cells ask -/
namespace Go.Proofs.Ytmbjjaflgdfihaa
open Go.RowKit
set_option linter.unusedVariables false
set_option maxRecDepth 100000

/-- What is true where the bound says no. -/
def Lean8 (most : Nat) (zs : List Cz) : Prop := zs.length ≤ most ∧ ∀ z ∈ zs, z.s.length ≤ 64
def GrP (most : Nat) (zs : List Cz) (w : World) (e : Ending) (w' : World) : Prop := ∃ g, e = .returned (.bool g) ∧ (g = false → Lean8 most zs) ∧ Below w.heap.size w w'
set_option maxHeartbeats 2000000 in
theorem great18_any (most : Nat) (u : Value) (zs : List Cz) (w : World) (hu : Drow w u zs) (hmo : most ≤ 1000000) :
    Calls Try.prog 4 #[u, .int .i64 most] w (GrP most zs w) := by
  have hl := hu.len
  obtain ⟨a1, cap1, rfl⟩ := hu.shape
  by_cases hlen : most < zs.length
  · have q1 : decide (most < zs.length) = true := decide_eq_true hlen
    clear hlen
    go_enter Try.func4, Try.ntmps4
    go_wp2
    go_ret
    exact ⟨true, rfl, fun h => (by cases h), Below.refl _ _⟩
  have q1 : decide (most < zs.length) = false := decide_eq_false hlen
  by_cases h0 : 0 < zs.length
  · obtain ⟨b1, o1, rfl, -, hcap, hm, hbl, hat⟩ := hu.ats h0
    have HA := Lib.hid hat
    have HK := Lib.hid hu.ok
    have HL := Lib.hid (show zs.length ≤ most by omega)
    clear hat hu hlen
    go_enter Try.func4, Try.ntmps4
    go_wp2
    go_loopw [5, 6] (fun s5 s6 wr => ∃ (k : Nat) (x : Int), k ≤ zs.length ∧ s6 = .int .i64 k ∧ s5 = .int .i64 x ∧ Hid (∀ z ∈ zs.take k, z.s.length ≤ 64) ∧ Hid (Below w.heap.size w wr)) (fun _ s6 _ => zs.length - (intOf s6).toNat)
    case atStart => exact ⟨0, 0, Nat.zero_le _, rfl, rfl, Lib.hid (by simp), Lib.hid (Below.refl _ _)⟩
    case round =>
      obtain ⟨k, x, hk, rfl, rfl, HP, HB⟩ := hrel
      by_cases hlt : k < zs.length
      · have hcz := (HA.out k hlt).below HB.out
        have HAR := Lib.hid ((HK.out _ (List.getElem_mem hlt)).below HB.out (Nat.le_refl _))
        have HLT := Lib.hid hlt
        have HST := Lib.hid (show zs[k].s.length ≤ 64 → ∀ z ∈ zs.take (k + 1), z.s.length ≤ 64 from fun h z hz => by
          rw [tsnoc hlt] at hz
          rcases List.mem_append.1 hz with hz | hz
          · exact HP.out z hz
          · obtain rfl := List.mem_singleton.1 hz; exact h)
        clear HP
        generalize zs[k] = z at *
        obtain ⟨zr, za, zc, zz⟩ := z
        simp only at *
        have HCZ := Lib.hid hcz
        obtain ⟨c0, c1⟩ := hcz
        simp only at c0 c1
        by_cases hz : 64 < zz.length
        · have q2 : decide ((64 : Int) < (zz.length : Int)) = true := by simp; omega
          clear hz
          go_wp2
          go_ret
          exact ⟨true, rfl, fun h => (by cases h), HB.out⟩
        have q2 : decide ((64 : Int) < (zz.length : Int)) = false := by simp; omega
        have HS := Lib.hid (HST.out (by omega))
        have hzz : zz.length ≤ 64 := by omega
        clear HST hz
        go_wp2
        by_cases h1 : 0 < zz.length
        · obtain ⟨b2, o2, rfl, -, hcap2, hm2, hbl2, hat2⟩ := Arow.opn HAR.out h1
          have HA2 := Lib.hid hat2
          have hcap3 := hcap2
          clear hat2 HAR h1
          go_loopw [5, 7] (fun s5 s7 w2 => ∃ (j : Nat) (x : Int), j ≤ zz.length ∧ s7 = .int .i64 j ∧ s5 = .int .i64 x ∧ Hid (Below wr.heap.size wr w2)) (fun _ s7 _ => zz.length - (intOf s7).toNat)
          case atStart => exact ⟨0, x, Nat.zero_le _, rfl, rfl, Lib.hid (Below.refl _ _)⟩
          case round =>
            obtain ⟨j, y, hj, rfl, rfl, HW⟩ := hrel
            obtain ⟨d0, d1⟩ := HCZ.out.below HW.out
            simp only at d0 d1
            by_cases hjl : j < zz.length
            · obtain ⟨f0, f1, f2, f3, f4⟩ := (HA2.out j hjl).below HW.out hbl2
              have HJ := Lib.hid hjl
              generalize zz[j] = at9 at *
              obtain ⟨x1, x2, x3, x4, x5⟩ := at9
              simp only at f0 f1 f2 f3 f4
              go_wp2
              go_roundw
              case rel => exact ⟨j + 1, _, HJ.out, by go_num, rfl, HW⟩
              case measure => have := HJ.out; simp [intOf]; omega
            · obtain rfl : j = zz.length := by omega
              have HB2 := Lib.hid (below_add HB.out HW.out HB.out.size)
              go_wp2
              go_roundw
              case rel => exact ⟨k + 1, _, HLT.out, by go_num, rfl, HS, HB2⟩
              case measure => have := HLT.out; simp [intOf]; omega
        · obtain rfl : zz = [] := List.length_eq_zero_iff.1 (by omega)
          refine wp_loop_rounds 1 ?_
          rw [rounds_succ]
          go_wp2
          go_roundw
          case rel => exact ⟨k + 1, _, HLT.out, by go_num, rfl, HS, HB⟩
          case measure => have := HLT.out; simp [intOf]; omega
      · obtain rfl : k = zs.length := by omega
        have HE := Lib.hid (show Lean8 most zs from ⟨HL.out, by have := HP.out; rwa [List.take_of_length_le (Nat.le_refl _)] at this⟩)
        clear HP
        go_wp2
        go_ret
        exact ⟨_, rfl, fun _ => HE.out, HB.out⟩
  · obtain rfl : zs = [] := List.length_eq_zero_iff.1 (by omega)
    clear hu hlen
    go_enter Try.func4, Try.ntmps4
    go_wp2
    refine wp_loop_rounds 1 ?_
    rw [rounds_succ]
    go_wp2
    go_ret
    exact ⟨_, rfl, fun _ => ⟨Nat.zero_le _, by simp⟩, Below.refl _ _⟩
end Go.Proofs.Ytmbjjaflgdfihaa
