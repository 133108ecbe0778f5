
import Derived.Test.YtoiomijchchlnaaF9
/- F10: how much a delta has; more than is looked at -/
namespace Go.Proofs.Ytoiomijchchlnaa
open Go.RowKit
set_option linter.unusedVariables false

def OPl (b o : Nat) (k n : Int) (ra : Option Addr) (rl rc : Nat) (sa : Option Addr) (sl sc : Nat) (pa : Option Addr) (pl pc : Nat) (w : World) : Prop :=
  w.cell? ⟨b, o, none⟩ = some (.int .u8 k) ∧ w.cell? ⟨b, o + 1, none⟩ = some (.int .i64 n) ∧ w.cell? ⟨b, o + 2, none⟩ = some (.slice ra rl rc) ∧ w.cell? ⟨b, o + 3, none⟩ = some (.slice sa sl sc) ∧ w.cell? ⟨b, o + 4, none⟩ = some (.slice pa pl pc)
theorem OPl.below {b o : Nat} {k n : Int} {ra : Option Addr} {rl rc : Nat} {sa : Option Addr} {sl sc : Nat} {pa : Option Addr} {pl pc : Nat} {w w' : World} (h : OPl b o k n ra rl rc sa sl sc pa pl pc w) (hb : Below w.heap.size w w') : OPl b o k n ra rl rc sa sl sc pa pl pc w' := by
  obtain ⟨c0, c1, c2, c3, c4⟩ := h
  have hl : b < w.heap.size := World.block_lt_of_cell? w _ c0
  exact ⟨(hb.cell (p := ⟨b, _, none⟩) hl).trans c0, (hb.cell (p := ⟨b, _, none⟩) hl).trans c1, (hb.cell (p := ⟨b, _, none⟩) hl).trans c2, (hb.cell (p := ⟨b, _, none⟩) hl).trans c3, (hb.cell (p := ⟨b, _, none⟩) hl).trans c4⟩

set_option maxRecDepth 100000 in
set_option maxHeartbeats 4000000 in
theorem size_any (u : Value) (ls : List Opn) (w : World) (hv : Orow w u ls) :
    Calls Try.prog 14 #[u] w fun e w' => (∃ n, e = .returned (.int .i64 n)) ∧ Below w.heap.size w w' := by
  have hl : ls.length ≤ 9223372036854775807 := hv.len
  obtain ⟨a1, cap1, rfl⟩ := hv.shape
  by_cases h0 : 0 < ls.length
  rotate_left
  · obtain rfl : ls = [] := List.eq_nil_of_length_eq_zero (by omega)
    clear hv h0
    go_enter Try.func14, Try.ntmps14
    go_wp2
    refine wp_loop_rounds 1 ?_
    rw [rounds_succ]
    go_wp2
    go_ret
    exact ⟨⟨_, rfl⟩, Below.refl _ _⟩
  obtain ⟨b1, o1, rfl, -, -, -, hbl, hat⟩ := hv.ats h0
  have HAT := Lib.hid hat
  clear hv hat
  go_enter Try.func14, Try.ntmps14
  go_wp2
  go_loopw [3, 4] (fun s3 s4 wr => ∃ (k : Nat) (t : Int), k ≤ ls.length ∧ s3 = .int .i64 t ∧ s4 = .int .i64 k ∧ Hid (Below w.heap.size w wr)) (fun _ s4 _ => ls.length - (intOf s4).toNat)
  case atStart => exact ⟨0, 0, Nat.zero_le _, rfl, rfl, Lib.hid (Below.refl _ _)⟩
  case round =>
    obtain ⟨k, t, hk, rfl, rfl, HR⟩ := hrel
    obtain ⟨wo, hwo⟩ : ∃ x : World, x = wr := ⟨_, rfl⟩
    subst hwo
    by_cases hlt : k < ls.length
    · have hoat := HAT.out k hlt
      generalize ls[k] = p at hoat
      have HLT := Lib.hid hlt
      obtain ⟨rl, sl, pl, e1, e2, e3, ra, rc, sa, sc, pa, pc, c0, c1, c2, c3, c4, q1, q2, q3⟩ := hoat
      have HC := Lib.hid (fun W (hb : Below w.heap.size w W) => OPl.below (show OPl b1 (o1 + k * 5) p.k p.n ra rl rc sa sl sc pa pl pc w from ⟨c0, c1, c2, c3, c4⟩) hb)
      have HSR := Lib.hid (fun W (hb : Below w.heap.size w W) => q2.below hb (Nat.le_refl _))
      have HPR := Lib.hid (fun W (hb : Below w.heap.size w W) => q3.below hb (Nat.le_refl _))
      have hrl := q1.len
      have hsl := q2.len
      have hpl := q3.len
      rw [e1] at hrl
      rw [e2] at hsl
      rw [e3] at hpl
      have HE2 := Lib.hid e2
      have HE3 := Lib.hid e3
      clear q1 q2 q3 e1 e2 e3 c0 c1 c2 c3 c4
      obtain ⟨c0, c1, c2, c3, c4⟩ := HC.out wo HR.out
      go_wp2
      go_quiet (fail)
      rename_i nq
      have HBQ := Lib.hid (blw_drewN HR.out nq)
      clear c0 c1 c2 c3 c4
      go_wp2
      go_loopw [3, 5] (fun s3 s5 wi => ∃ (j : Nat) (t : Int), j ≤ sl ∧ s3 = .int .i64 t ∧ s5 = .int .i64 j ∧ Hid (Below w.heap.size w wi)) (fun _ s5 _ => sl - (intOf s5).toNat)
      case atStart => exact ⟨0, _, Nat.zero_le _, rfl, rfl, HBQ⟩
      case round =>
        obtain ⟨j, t2, hj, rfl, rfl, HI⟩ := hrel
        obtain ⟨wi, hwi⟩ : ∃ x : World, x = wr := ⟨_, rfl⟩
        subst hwi
        obtain ⟨c0, c1, c2, c3, c4⟩ := HC.out wi HI.out
        by_cases hjl : j < sl
        · have hjo : j < p.st.length := by rw [HE2.out]; exact hjl
          obtain ⟨b2, o2, ha2, -, -, -, -, hat2⟩ := Arow.opn (HSR.out wi HI.out) (by omega)
          obtain ⟨d0, d1, d2, d3, d4⟩ := hat2 j hjo
          subst ha2
          have HJ := Lib.hid hjl
          generalize p.st[j] = x at *
          obtain ⟨x1, x2, x3, x4, x5⟩ := x
          simp only at d0 d1 d2 d3 d4
          clear hat2 hjo
          go_wp2
          go_roundw
          case rel => exact ⟨j + 1, _, HJ.out, rfl, by go_num, HI⟩
          case measure => have := HJ.out; simp [intOf]; omega
        · obtain rfl : j = sl := by omega
          go_wp2
          go_loopw [3, 6] (fun s3 s6 wi => ∃ (j : Nat) (t : Int), j ≤ pl ∧ s3 = .int .i64 t ∧ s6 = .int .i64 j ∧ Hid (Below w.heap.size w wi)) (fun _ s6 _ => pl - (intOf s6).toNat)
          case atStart => exact ⟨0, _, Nat.zero_le _, rfl, rfl, HI⟩
          case round =>
            clear c0 c1 c2 c3 c4
            obtain ⟨j3, t3, hj3, rfl, rfl, HP⟩ := hrel
            obtain ⟨wp, hwp⟩ : ∃ x : World, x = wr := ⟨_, rfl⟩
            subst hwp
            obtain ⟨c0, c1, c2, c3, c4⟩ := HC.out wp HP.out
            by_cases hjl : j3 < pl
            · have hjo : j3 < p.pt.length := by rw [HE3.out]; exact hjl
              obtain ⟨b2, o2, ha2, -, -, -, -, hat2⟩ := Crow.opn (HPR.out wp HP.out) (by omega)
              obtain ⟨d0, d1, d2, d3, d4, d5⟩ := hat2 j3 hjo
              subst ha2
              have HJ := Lib.hid hjl
              generalize p.pt[j3] = x at *
              obtain ⟨x1, x2, x3, x4, x5, x6⟩ := x
              simp only at d0 d1 d2 d3 d4 d5
              clear hat2 hjo
              go_wp2
              go_roundw
              case rel => exact ⟨j3 + 1, _, HJ.out, rfl, by go_num, HP⟩
              case measure => have := HJ.out; simp [intOf]; omega
            · obtain rfl : j3 = pl := by omega
              go_wp2
              go_roundw
              case rel => exact ⟨k + 1, _, HLT.out, rfl, by go_num, HP⟩
              case measure => have := HLT.out; simp [intOf]; omega
    · obtain rfl : k = ls.length := by omega
      go_wp2
      go_ret
      exact ⟨⟨_, rfl⟩, HR.out⟩
end Go.Proofs.Ytoiomijchchlnaa
