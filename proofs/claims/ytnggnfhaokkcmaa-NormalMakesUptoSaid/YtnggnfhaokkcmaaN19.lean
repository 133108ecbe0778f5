
import Derived.Test.YtnggnfhaokkcmaaN18
/- N19: what the reference says may be; tame -/
namespace Go.Proofs.Ytnggnfhaokkcmaa
open Go.RowKit
set_option linter.unusedVariables false
set_option maxRecDepth 100000

set_option maxHeartbeats 4000000 in
theorem size_any (u : Value) (zs : List Oz) (w : World) (hv : Orow w u zs) :
    Calls Try.prog 9 #[u] w fun e w' => (∃ n, e = .returned (.int .i64 n)) ∧ Below w.heap.size w w' := by
  have hl : zs.length ≤ 9223372036854775807 := hv.len
  obtain ⟨a1, cap1, rfl⟩ := hv.shape
  by_cases h0 : 0 < zs.length
  rotate_left
  · obtain rfl : zs = [] := List.eq_nil_of_length_eq_zero (by omega)
    clear hv h0
    go_enter Try.func9, Try.ntmps9
    go_wp2
    refine wp_loop_rounds 1 ?_
    rw [rounds_succ]
    go_wp2
    go_ret
    exact ⟨⟨_, rfl⟩, Below.refl _ _⟩
  obtain ⟨b1, o1, rfl, -, -, -, hbl, hat⟩ := hv.row.ats h0
  have HAT := Lib.hid hat
  have HOK := Lib.hid hv.ok
  clear hv hat
  go_enter Try.func9, Try.ntmps9
  go_wp2
  go_loopw [3, 4] (fun s3 s4 wr => ∃ (k : Nat) (t : Int), k ≤ zs.length ∧ s3 = .int .i64 t ∧ s4 = .int .i64 k ∧ Hid (Below w.heap.size w wr)) (fun _ s4 _ => zs.length - (intOf s4).toNat)
  case atStart => exact ⟨0, 0, Nat.zero_le _, rfl, rfl, Lib.hid (Below.refl _ _)⟩
  case round =>
    obtain ⟨k, t, hk, rfl, rfl, HR⟩ := hrel
    obtain ⟨wo, hwo⟩ : ∃ x : World, x = wr := ⟨_, rfl⟩
    subst hwo
    by_cases hlt : k < zs.length
    · have hoat := HAT.out k hlt
      have hok := HOK.out _ (List.getElem_mem hlt)
      generalize zs[k] = p at hoat hok
      have HLT := Lib.hid hlt
      have HC := Lib.hid (fun W (hb : Below w.heap.size w W) => OAt.below hoat hb)
      have HSR := Lib.hid (fun W (hb : Below w.heap.size w W) => hok.s.below hb (Nat.le_refl _))
      have HPR := Lib.hid (fun W (hb : Below w.heap.size w W) => hok.p.below hb (Nat.le_refl _))
      have hrl := hok.r.len
      have hsl := hok.s.len
      have hpl := hok.p.len
      clear hok hoat
      obtain ⟨pk, pn, pra, prc, prs, psa, psc, pst, ppa, ppc, ppt⟩ := p
      simp only at hrl hsl hpl
      obtain ⟨c0, c1, c2, c3, c4⟩ := HC.out wo HR.out
      obtain ⟨rl, hrl2⟩ : ∃ n, prs.length = n := ⟨_, rfl⟩
      obtain ⟨sl, HE2⟩ : ∃ n, Hid (pst.length = n) := ⟨_, Lib.hid rfl⟩
      obtain ⟨pl, HE3⟩ : ∃ n, Hid (ppt.length = n) := ⟨_, Lib.hid rfl⟩
      have HRR := Lib.hid hrl2
      have e2 := HE2.out
      have e3 := HE3.out
      simp only at c2 c3 c4
      rw [hrl2] at c2 hrl
      rw [e2] at c3 hsl
      rw [e3] at c4 hpl
      clear hrl2 e2 e3
      go_wp2
      go_quiet (fail)
      rename_i nq
      have HBQ := Lib.hid (blw_drewN HR.out nq)
      clear c0 c1 c2 c3 c4
      go_wp2
      go_loopw [3, 5] (fun s3 s5 wi => ∃ (j : Nat) (t : Int), j ≤ sl ∧ s3 = .int .i64 t ∧ s5 = .int .i64 j ∧ Hid (Below w.heap.size w wi)) (fun _ s5 _ => sl - (intOf s5).toNat)
      case atStart => exact ⟨0, _, Nat.zero_le _, rfl, rfl, HBQ⟩
      case round =>
        obtain ⟨j, t2, hj, rfl, rfl, HI⟩ := hrel
        obtain ⟨wi, hwi⟩ : ∃ x : World, x = wr := ⟨_, rfl⟩
        subst hwi
        obtain ⟨c0, c1, c2, c3, c4⟩ := HC.out wi HI.out
        by_cases hjl : j < sl
        · have hjo : j < pst.length := by rw [HE2.out]; exact hjl
          have hsr := HSR.out wi HI.out
          obtain ⟨b2, o2, ha2, -, -, -, -, hat2⟩ := Arow.opn hsr (by omega)
          obtain ⟨d0, d1, d2, d3, d4⟩ := hat2 j hjo
          simp only at ha2 c3
          subst ha2
          rw [HE2.out] at c3
          have HJ := Lib.hid hjl
          generalize pst[j] = x at *
          obtain ⟨x1, x2, x3, x4, x5⟩ := x
          simp only at d0 d1 d2 d3 d4
          clear hat2 hjo hsr
          go_wp2
          go_roundw
          case rel => exact ⟨j + 1, _, HJ.out, rfl, by go_num, HI⟩
          case measure => have := HJ.out; simp [intOf]; omega
        · obtain rfl : j = sl := by omega
          simp only at c3 c4
          rw [HE2.out] at c3
          rw [HE3.out] at c4
          go_wp2
          go_loopw [3, 6] (fun s3 s6 wi => ∃ (j : Nat) (t : Int), j ≤ pl ∧ s3 = .int .i64 t ∧ s6 = .int .i64 j ∧ Hid (Below w.heap.size w wi)) (fun _ s6 _ => pl - (intOf s6).toNat)
          case atStart => exact ⟨0, _, Nat.zero_le _, rfl, rfl, HI⟩
          case round =>
            clear c0 c1 c2 c3 c4
            obtain ⟨j3, t3, hj3, rfl, rfl, HP⟩ := hrel
            obtain ⟨wp, hwp⟩ : ∃ x : World, x = wr := ⟨_, rfl⟩
            subst hwp
            obtain ⟨c0, c1, c2, c3, c4⟩ := HC.out wp HP.out
            simp only at c4
            by_cases hjl : j3 < pl
            · have hjo : j3 < ppt.length := by rw [HE3.out]; exact hjl
              have hpr := HPR.out wp HP.out
              obtain ⟨b2, o2, ha2, -, -, -, -, hat2⟩ := Crow.opn hpr (by omega)
              obtain ⟨d0, d1, d2, d3, d4, d5⟩ := hat2 j3 hjo
              simp only at ha2
              subst ha2
              rw [HE3.out] at c4
              have HJ := Lib.hid hjl
              generalize ppt[j3] = x at *
              obtain ⟨x1, x2, x3, x4, x5, x6⟩ := x
              simp only at d0 d1 d2 d3 d4 d5
              clear hat2 hjo hpr
              go_wp2
              go_roundw
              case rel => exact ⟨j3 + 1, _, HJ.out, rfl, by go_num, HP⟩
              case measure => have := HJ.out; simp [intOf]; omega
            · obtain rfl : j3 = pl := by omega
              rw [HE3.out] at c4
              go_wp2
              go_roundw
              case rel => exact ⟨k + 1, _, HLT.out, rfl, by go_num, HP⟩
              case measure => have := HLT.out; simp [intOf]; omega
    · obtain rfl : k = zs.length := by omega
      go_wp2
      go_ret
      exact ⟨⟨_, rfl⟩, HR.out⟩

def takeZ (t : Int) (z : Oz) : Int := if z.k = 2 then t else wrap64 (t + z.n)
def lenZ (z : Oz) : Int := if z.k = 2 then (z.rs.length : Int) else z.n
def makeZ (t : Int) (z : Oz) : Int := if z.k = 3 then t else wrap64 (t + lenZ z)
theorem fold_step {f : Int → Oz → Int} {zs : List Oz} {k : Nat} (hk : k < zs.length) {t : Int} (h : t = (zs.take k).foldl f 0) : f t zs[k] = (zs.take (k + 1)).foldl f 0 := by
  rw [List.take_succ_eq_append_getElem hk, List.foldl_append, h]; rfl
set_option maxHeartbeats 2000000 in
theorem takes_any (u : Value) (zs : List Oz) (w : World) (hv : Orow w u zs) :
    Calls Try.prog 39 #[u] w fun e w' => e = .returned (.int .i64 (zs.foldl takeZ 0)) ∧ Below w.heap.size w w' := by
  have hl : zs.length ≤ 9223372036854775807 := hv.len
  obtain ⟨a1, cap1, rfl⟩ := hv.shape
  have HAT := Lib.hid (fun (h0 : 0 < zs.length) => hv.row.ats h0)
  clear hv
  go_enter Try.func39, Try.ntmps39
  go_wp2
  go_loopw [3, 4] (fun s3 s4 wr => ∃ (k : Nat) (t : Int), k ≤ zs.length ∧ s3 = .int .i64 t ∧ s4 = .int .i64 k ∧ Hid (Below w.heap.size w wr ∧ t = (zs.take k).foldl takeZ 0)) (fun _ s4 _ => zs.length - (intOf s4).toNat)
  case atStart => exact ⟨0, 0, Nat.zero_le _, rfl, rfl, Lib.hid ⟨Below.refl _ _, rfl⟩⟩
  case round =>
    obtain ⟨k, t, hk, rfl, rfl, HR2⟩ := hrel
    have HR := Lib.hid HR2.out.1
    by_cases hlt : k < zs.length
    · obtain ⟨b1, o1, rfl, -, -, -, hbl, hat⟩ := HAT.out (by omega)
      obtain ⟨c0, c1, c2, c3, c4⟩ := (hat k hlt).below HR.out
      have HLT := Lib.hid hlt
      have HST := Lib.hid (fold_step hlt HR2.out.2)
      clear hat HAT HR2
      generalize zs[k] = p at *
      by_cases h2 : p.k = 2
      · have q1 : (p.k != 2) = false := by simpa using h2
        have HT := Lib.hid (show t = (zs.take (k + 1)).foldl takeZ 0 by have := HST.out; rwa [takeZ, if_pos h2] at this)
        clear HST
        clear h2
        go_wp2
        go_roundw
        case rel => exact ⟨k + 1, _, HLT.out, rfl, by go_num, Lib.hid ⟨HR.out, HT.out⟩⟩
        case measure => have := HLT.out; simp [intOf]; omega
      · have q1 : (p.k != 2) = true := by simpa using h2
        have HT := Lib.hid (show wrap64 (t + p.n) = (zs.take (k + 1)).foldl takeZ 0 by have := HST.out; rwa [takeZ, if_neg h2] at this)
        clear HST
        clear h2
        go_wp2
        go_roundw
        case rel => exact ⟨k + 1, _, HLT.out, rfl, by go_num, Lib.hid ⟨HR.out, HT.out⟩⟩
        case measure => have := HLT.out; simp [intOf]; omega
    · obtain rfl : k = zs.length := by omega
      have HE := Lib.hid (show t = zs.foldl takeZ 0 by have := HR2.out.2; rwa [List.take_length] at this)
      clear HR2
      go_wp2
      go_ret
      exact ⟨by rw [HE.out]; rfl, HR.out⟩
theorem rlen_any (z : Oz) (w : World) :
    Calls Try.prog 56 #[z.v] w fun e w' => e = .returned (.int .i64 (lenZ z)) ∧ Below w.heap.size w w' := by
  have HB := Lib.hid (kbelow_one w (.cells z.cs 34))
  by_cases h2 : z.k = 2
  · have q1 : (z.k == 2) = true := by simpa using h2
    have HL := Lib.hid (show lenZ z = (z.rs.length : Int) from if_pos h2)
    clear h2
    go_enter Try.func56, Try.ntmps56
    go_wp2
    go_ret
    exact ⟨by rw [HL.out]; rfl, HB.out⟩
  · have q1 : (z.k == 2) = false := by simpa using h2
    have HL := Lib.hid (show lenZ z = z.n from if_neg h2)
    clear h2
    go_enter Try.func56, Try.ntmps56
    go_wp2
    go_ret
    exact ⟨by rw [HL.out]; rfl, HB.out⟩
set_option maxHeartbeats 2000000 in
theorem makes_any (u : Value) (zs : List Oz) (w : World) (hv : Orow w u zs) :
    Calls Try.prog 40 #[u] w fun e w' => e = .returned (.int .i64 (zs.foldl makeZ 0)) ∧ Below w.heap.size w w' := by
  have hl : zs.length ≤ 9223372036854775807 := hv.len
  obtain ⟨a1, cap1, rfl⟩ := hv.shape
  have HAT := Lib.hid (fun (h0 : 0 < zs.length) => hv.row.ats h0)
  clear hv
  go_enter Try.func40, Try.ntmps40
  go_wp2
  go_loopw [3, 4] (fun s3 s4 wr => ∃ (k : Nat) (t : Int), k ≤ zs.length ∧ s3 = .int .i64 t ∧ s4 = .int .i64 k ∧ Hid (Below w.heap.size w wr ∧ t = (zs.take k).foldl makeZ 0)) (fun _ s4 _ => zs.length - (intOf s4).toNat)
  case atStart => exact ⟨0, 0, Nat.zero_le _, rfl, rfl, Lib.hid ⟨Below.refl _ _, rfl⟩⟩
  case round =>
    obtain ⟨k, t, hk, rfl, rfl, HR2⟩ := hrel
    have HR := Lib.hid HR2.out.1
    by_cases hlt : k < zs.length
    · obtain ⟨b1, o1, rfl, -, -, -, hbl, hat⟩ := HAT.out (by omega)
      obtain ⟨c0, c1, c2, c3, c4⟩ := (hat k hlt).below HR.out
      have HLT := Lib.hid hlt
      have HST := Lib.hid (fold_step hlt HR2.out.2)
      clear hat HAT HR2
      generalize zs[k] = p at *
      have HLE := Lib.hid (fun W => rlen_any p W)
      by_cases h2 : p.k = 3
      · have q1 : (p.k != 3) = false := by simpa using h2
        have HT := Lib.hid (show t = (zs.take (k + 1)).foldl makeZ 0 by have := HST.out; rwa [makeZ, if_pos h2] at this)
        clear HST
        clear h2
        go_wp2
        go_roundw
        case rel => exact ⟨k + 1, _, HLT.out, rfl, by go_num, Lib.hid ⟨HR.out, HT.out⟩⟩
        case measure => have := HLT.out; simp [intOf]; omega
      · have q1 : (p.k != 3) = true := by simpa using h2
        have HT := Lib.hid (show wrap64 (t + lenZ p) = (zs.take (k + 1)).foldl makeZ 0 by have := HST.out; rwa [makeZ, if_neg h2] at this)
        clear HST
        generalize lenZ p = lp at *
        clear h2
        go_wp2_with (go_at_call 56; refine (HLE.out _).mono ?_; rintro e w1 ⟨rfl, hb⟩; have HB := Lib.hid (below_add HR.out hb HR.out.size); clear hb)
        go_roundw
        case rel => exact ⟨k + 1, _, HLT.out, rfl, by go_num, Lib.hid ⟨HB.out, HT.out⟩⟩
        case measure => have := HLT.out; simp [intOf]; omega
    · obtain rfl : k = zs.length := by omega
      have HE := Lib.hid (show t = zs.foldl makeZ 0 by have := HR2.out.2; rwa [List.take_length] at this)
      clear HR2
      go_wp2
      go_ret
      exact ⟨by rw [HE.out]; rfl, HR.out⟩

/-- An op whose form is right. -/
structure FP (z : Oz) : Prop where
  tm : Tm z.o
  n : z.n ≤ 536870912
/-- The same as an answer. -/
def FB (z : Oz) : Prop := (z.k = 1 ∧ z.rs.length = 0 ∧ z.st.length = 0 ∧ 1 ≤ z.n ∧ z.n ≤ 536870912) ∨ (z.k = 3 ∧ z.rs.length = 0 ∧ z.st.length = 0 ∧ z.pt.length = 0 ∧ 1 ≤ z.n ∧ z.n ≤ 536870912) ∨ (z.k = 2 ∧ (∀ j, j < z.rs.length → mayB (z.rs.getD j 0) = true) ∧ z.n = 0 ∧ z.pt.length = 0 ∧ 1 ≤ z.rs.length)
instance (z : Oz) : Decidable (FB z) := by unfold FB; infer_instance
theorem FB.fp {z : Oz} (h : FB z) : FP z := by
  rcases h with ⟨h1, h2, h3, h4, h5⟩ | ⟨h1, h2, h3, h4, h5, h6⟩ | ⟨h1, h2, h3, h4, h5⟩
  · exact ⟨⟨fun _ => ⟨List.eq_nil_of_length_eq_zero h3, List.eq_nil_of_length_eq_zero h2, h4⟩, fun h => (by have h : z.k = 2 := h; omega), fun h => (by have h : z.k = 3 := h; omega), .inl h1, (by show z.n ≤ _; omega)⟩, h5⟩
  · exact ⟨⟨fun h => (by have h : z.k = 1 := h; omega), fun h => (by have h : z.k = 2 := h; omega), fun _ => ⟨List.eq_nil_of_length_eq_zero h3, List.eq_nil_of_length_eq_zero h4, List.eq_nil_of_length_eq_zero h2, h5⟩, .inr (.inr h1), (by show z.n ≤ _; omega)⟩, h6⟩
  · exact ⟨⟨fun h => (by have h : z.k = 1 := h; omega), fun _ => ⟨h3, List.eq_nil_of_length_eq_zero h4, fun h => (by have h : z.rs = [] := h; rw [h] at h5; simp at h5)⟩, fun h => (by have h : z.k = 3 := h; omega), .inr (.inl h1), (by show z.n ≤ _; omega)⟩, by omega⟩
def FmP (z : Oz) (e : Ending) : Prop := e = .returned (.bool (decide (FB z)))
theorem FmP.no {z : Oz} (h : ¬ FB z) : FmP z (.returned (.bool false)) := by rw [FmP, decide_eq_false h]
theorem FmP.yes {z : Oz} (h : FB z) : FmP z (.returned (.bool true)) := by rw [FmP, decide_eq_true h]
set_option maxHeartbeats 4000000 in
theorem form_any (z : Oz) (w : World) (hz : OpOk w z) (hs : Sm z) :
    Calls Try.prog 36 #[z.v] w fun e w' => FmP z e ∧ Below w.heap.size w w' := by
  have HB := Lib.hid (kbelow_one w (.cells z.cs 34))
  have HZ := Lib.hid hz
  have hrl := hs.r
  clear hz hs
  by_cases k1 : z.k = 1
  · have q1 : (z.k == 1) = true := by simpa using k1
    by_cases a0 : z.rs.length = 0
    rotate_left
    · have t_rs : ((z.rs.length : Int) == 0) = false := by simpa using a0
      have HN := Lib.hid (show ¬ FB z from fun h => by rcases h with h | h | h <;> omega)
      go_enter Try.func36, Try.ntmps36
      go_wp2
      go_ret
      exact ⟨FmP.no HN.out, HB.out⟩
    have t_rs : ((z.rs.length : Int) == 0) = true := by simpa using a0
    by_cases a1 : z.st.length = 0
    rotate_left
    · have t_st : ((z.st.length : Int) == 0) = false := by simpa using a1
      have HN := Lib.hid (show ¬ FB z from fun h => by rcases h with h | h | h <;> omega)
      go_enter Try.func36, Try.ntmps36
      go_wp2
      go_ret
      exact ⟨FmP.no HN.out, HB.out⟩
    have t_st : ((z.st.length : Int) == 0) = true := by simpa using a1
    by_cases a2 : 1 ≤ z.n
    rotate_left
    · have t_n1 : decide (1 ≤ z.n) = false := decide_eq_false a2
      have HN := Lib.hid (show ¬ FB z from fun h => by rcases h with h | h | h <;> omega)
      go_enter Try.func36, Try.ntmps36
      go_wp2
      go_ret
      exact ⟨FmP.no HN.out, HB.out⟩
    have t_n1 : decide (1 ≤ z.n) = true := decide_eq_true a2
    by_cases a3 : z.n ≤ 536870912
    rotate_left
    · have t_n2 : decide (z.n ≤ 536870912) = false := decide_eq_false a3
      have HN := Lib.hid (show ¬ FB z from fun h => by rcases h with h | h | h <;> omega)
      go_enter Try.func36, Try.ntmps36
      go_wp2
      go_ret
      exact ⟨FmP.no HN.out, HB.out⟩
    have t_n2 : decide (z.n ≤ 536870912) = true := decide_eq_true a3
    have HN := Lib.hid (show FB z from .inl ⟨k1, a0, a1, a2, a3⟩)
    go_enter Try.func36, Try.ntmps36
    go_wp2
    go_ret
    exact ⟨FmP.yes HN.out, HB.out⟩
  have q1 : (z.k == 1) = false := by simpa using k1
  by_cases k3 : z.k = 3
  · have q3 : (z.k == 3) = true := by simpa using k3
    by_cases a0 : z.rs.length = 0
    rotate_left
    · have t_rs : ((z.rs.length : Int) == 0) = false := by simpa using a0
      have HN := Lib.hid (show ¬ FB z from fun h => by rcases h with h | h | h <;> omega)
      go_enter Try.func36, Try.ntmps36
      go_wp2
      go_ret
      exact ⟨FmP.no HN.out, HB.out⟩
    have t_rs : ((z.rs.length : Int) == 0) = true := by simpa using a0
    by_cases a1 : z.st.length = 0
    rotate_left
    · have t_st : ((z.st.length : Int) == 0) = false := by simpa using a1
      have HN := Lib.hid (show ¬ FB z from fun h => by rcases h with h | h | h <;> omega)
      go_enter Try.func36, Try.ntmps36
      go_wp2
      go_ret
      exact ⟨FmP.no HN.out, HB.out⟩
    have t_st : ((z.st.length : Int) == 0) = true := by simpa using a1
    by_cases a2 : z.pt.length = 0
    rotate_left
    · have t_pt : ((z.pt.length : Int) == 0) = false := by simpa using a2
      have HN := Lib.hid (show ¬ FB z from fun h => by rcases h with h | h | h <;> omega)
      go_enter Try.func36, Try.ntmps36
      go_wp2
      go_ret
      exact ⟨FmP.no HN.out, HB.out⟩
    have t_pt : ((z.pt.length : Int) == 0) = true := by simpa using a2
    by_cases a3 : 1 ≤ z.n
    rotate_left
    · have t_n1 : decide (1 ≤ z.n) = false := decide_eq_false a3
      have HN := Lib.hid (show ¬ FB z from fun h => by rcases h with h | h | h <;> omega)
      go_enter Try.func36, Try.ntmps36
      go_wp2
      go_ret
      exact ⟨FmP.no HN.out, HB.out⟩
    have t_n1 : decide (1 ≤ z.n) = true := decide_eq_true a3
    by_cases a4 : z.n ≤ 536870912
    rotate_left
    · have t_n2 : decide (z.n ≤ 536870912) = false := decide_eq_false a4
      have HN := Lib.hid (show ¬ FB z from fun h => by rcases h with h | h | h <;> omega)
      go_enter Try.func36, Try.ntmps36
      go_wp2
      go_ret
      exact ⟨FmP.no HN.out, HB.out⟩
    have t_n2 : decide (z.n ≤ 536870912) = true := decide_eq_true a4
    have HN := Lib.hid (show FB z from .inr (.inl ⟨k3, a0, a1, a2, a3, a4⟩))
    go_enter Try.func36, Try.ntmps36
    go_wp2
    go_ret
    exact ⟨FmP.yes HN.out, HB.out⟩
  have q3 : (z.k == 3) = false := by simpa using k3
  by_cases k2 : z.k = 2
  rotate_left
  · have q2 : (z.k == 2) = false := by simpa using k2
    have HN := Lib.hid (show ¬ FB z from fun h => by rcases h with h | h | h <;> omega)
    go_enter Try.func36, Try.ntmps36
    go_wp2
    go_ret
    exact ⟨FmP.no HN.out, HB.out⟩
  have q2 : (z.k == 2) = true := by simpa using k2
  have HX := Lib.hid (OAt.new w z 34)
  have HRR := Lib.hid (fun W (hb : Below w.heap.size w W) => HZ.out.r.below hb)
  have HK := Lib.hid (And.intro k1 (And.intro k2 k3))
  clear k1 k2 k3 HZ
  go_enter Try.func36, Try.ntmps36
  go_wp2
  go_loopw [3] (fun s3 wr => ∃ (k : Nat), k ≤ z.rs.length ∧ s3 = .int .i64 k ∧ Hid (Below (w.heap.size + 1) (w.alloc (.cells z.cs 34)) wr ∧ ∀ j, j < k → mayB (z.rs.getD j 0) = true)) (fun s3 _ => z.rs.length - (intOf s3).toNat)
  case atStart => exact ⟨0, Nat.zero_le _, rfl, Lib.hid ⟨Below.refl _ _, fun j hj => absurd hj (Nat.not_lt_zero _)⟩⟩
  case round =>
    obtain ⟨k, hk, rfl, HR2⟩ := hrel
    have HR := Lib.hid HR2.out.1
    have HMB := Lib.hid HR2.out.2
    clear HR2
    obtain ⟨c0, c1, c2, c3, c4⟩ := HX.out.below (w' := wr) (by rw [World.size_alloc]; exact HR.out)
    have HBR := Lib.hid (show Below w.heap.size w wr from below_add HB.out (by rw [World.size_alloc]; exact HR.out) HB.out.size)
    by_cases hlt : k < z.rs.length
    · obtain ⟨b2, o2, ha2, -, -, -, hat2⟩ := (HRR.out wr HBR.out).opened (by omega)
      have d0 := hat2 k hlt
      rw [ha2] at c2
      have HBAD := Lib.hid (fun (hm : mayB (z.rs.getD k 0) = false) => show ¬ FB z from fun h => by
        rcases h with ⟨h, -⟩ | ⟨h, -⟩ | ⟨-, h, -⟩
        · exact HK.out.1 h
        · exact HK.out.2.2 h
        · have := h k hlt; rw [hm] at this; cases this)
      have HSTP := Lib.hid (fun (hm : mayB (z.rs.getD k 0) = true) => show ∀ j, j < k + 1 → mayB (z.rs.getD j 0) = true from fun j hj => by
        by_cases e : j = k
        · subst e; exact hm
        · exact HMB.out j (by omega))
      clear HMB
      generalize z.rs.getD k 0 = r at *
      have HM := Lib.hid (fun W => rmay_any r W)
      have HLT := Lib.hid hlt
      clear hat2
      generalize hmb : mayB r = mb at *
      cases mb
      · go_wp2_with (go_at_call 50; refine (HM.out _).mono ?_; rintro e w1 ⟨rfl, rfl⟩)
        go_ret
        exact ⟨FmP.no (HBAD.out (by first | rfl | trivial)), HBR.out⟩
      · go_wp2_with (go_at_call 50; refine (HM.out _).mono ?_; rintro e w1 ⟨rfl, rfl⟩)
        go_roundw
        case rel => exact ⟨k + 1, HLT.out, by go_num, Lib.hid ⟨HR.out, HSTP.out (by first | rfl | trivial)⟩⟩
        case measure => have := HLT.out; simp [intOf]; omega
    · obtain rfl : k = z.rs.length := by omega
      have hlt2 : ¬ ((z.rs.length : Int) < (z.rs.length : Int)) := by omega
      clear hk hlt
      obtain ⟨kk1, kk2, kk3⟩ := HK.out
      by_cases a0 : z.n = 0
      rotate_left
      · have t_n : (z.n == 0) = false := by simpa using a0
        have HN := Lib.hid (show ¬ FB z from fun h => by rcases h with h | h | h <;> omega)
        clear kk1 kk2 kk3
        go_wp2
        go_ret
        exact ⟨FmP.no HN.out, HBR.out⟩
      have t_n : (z.n == 0) = true := by simpa using a0
      by_cases a1 : z.pt.length = 0
      rotate_left
      · have t_pt : ((z.pt.length : Int) == 0) = false := by simpa using a1
        have HN := Lib.hid (show ¬ FB z from fun h => by rcases h with h | h | h <;> omega)
        clear kk1 kk2 kk3
        go_wp2
        go_ret
        exact ⟨FmP.no HN.out, HBR.out⟩
      have t_pt : ((z.pt.length : Int) == 0) = true := by simpa using a1
      by_cases a2 : 1 ≤ z.rs.length
      rotate_left
      · have t_r1 : decide ((1 : Int) ≤ (z.rs.length : Int)) = false := decide_eq_false (by omega)
        have HN := Lib.hid (show ¬ FB z from fun h => by rcases h with h | h | h <;> omega)
        clear kk1 kk2 kk3
        go_wp2
        go_ret
        exact ⟨FmP.no HN.out, HBR.out⟩
      have t_r1 : decide ((1 : Int) ≤ (z.rs.length : Int)) = true := decide_eq_true (by omega)
      have t_r2 : decide ((z.rs.length : Int) ≤ 536870912) = true := decide_eq_true (by omega)
      have HN := Lib.hid (show FB z from .inr (.inr ⟨HK.out.2.1, HMB.out, a0, a1, a2⟩))
      clear kk1 kk2 kk3
      go_wp2
      go_ret
      exact ⟨FmP.yes HN.out, HBR.out⟩
end Go.Proofs.Ytnggnfhaokkcmaa
