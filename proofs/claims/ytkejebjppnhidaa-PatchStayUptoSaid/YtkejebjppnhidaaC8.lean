
import Derived.Test.YtkejebjppnhidaaC7
import Derived.Test.YtkejebjppnhidaaA16
import Derived.Test.YtkejebjppnhidaaA19
/- C8: wellFormed -/
namespace Go.Proofs.Ytkejebjppnhidaa
open Go.RowKit
set_option linter.unusedVariables false

theorem vneq (k n f k' n' f' : Int) (s s' : ByteArray) (w : World) :
    (binOp .neq 50 (val k n f s) (val k' n' f' s')).run Try.prog w = .ok (.bool (!((k == k') && (n == n') && (f == f') && (s.toList == s'.toList)))) w := by
  have h := val_eql k n f k' n' f' s s' w
  rw [run_eql_struct] at h
  rw [run_neq_struct]
  revert h
  generalize (Op.equalIn 10000 50 (val k n f s) (val k' n' f' s')).run Try.prog w = r
  cases r <;> intro h <;> simp [Result.andThen] at h ⊢
  obtain ⟨h1, h2⟩ := h
  simp [h1, h2]
/-- Is a change's value zero? -/
def zv (c : Chg) : Bool := (c.k == 0) && (c.n == 0) && (c.f == 0) && (c.s.toList == (⟨#[]⟩ : ByteArray).toList)
def gOk (c : Chg) : Bool := !c.g || zv c
def wf6 (xs : List Chg) : Bool := decide (RiseC xs) && decide (xs.length ≤ 64) && xs.all gOk
theorem gok_step {xs : List Chg} {k : Nat} (h : k < xs.length) (hp : (xs.take k).all gOk = true) (hx : gOk xs[k] = true) : (xs.take (k + 1)).all gOk = true := by rw [tsnoc h, List.all_append, hp]; simpa using hx
theorem gok_bad {xs : List Chg} {k : Nat} (h : k < xs.length) (hx : gOk xs[k] = false) : xs.all gOk = false := by rw [List.all_eq_false]; exact ⟨_, List.getElem_mem h, by rw [hx]; exact Bool.false_ne_true⟩
theorem wf6_badV {xs : List Chg} (h : xs.all gOk = false) : wf6 xs = false := by unfold wf6; rw [h, Bool.and_false]
theorem wf6_badR {xs : List Chg} (h : ¬ RiseC xs) : wf6 xs = false := by unfold wf6; rw [decide_eq_false h]; rfl
theorem wf6_badL {xs : List Chg} (h : 64 < xs.length) : wf6 xs = false := by unfold wf6; rw [show decide (xs.length ≤ 64) = false by rw [decide_eq_false_iff_not]; omega]; simp
theorem wf6_good {xs : List Chg} (h1 : RiseC xs) (h2 : xs.length ≤ 64) (h3 : xs.all gOk = true) : wf6 xs = true := by unfold wf6; rw [decide_eq_true h1, decide_eq_true h2, h3]; rfl
theorem wf6_parts {xs : List Chg} (h : wf6 xs = true) : RiseC xs ∧ xs.length ≤ 64 ∧ xs.all gOk = true := by unfold wf6 at h; simpa [and_assoc] using h
theorem crise_zero {xs : List Chg} : RiseC (xs.take 0) := by simp [RiseC]

set_option maxRecDepth 100000 in
set_option maxHeartbeats 1000000 in
theorem wf6_any (v : Value) (xs : List Chg) (w : World) (hv : Crow w v xs) :
    Calls Try.prog 33 #[v] w fun e w' => e = .returned (.bool (wf6 xs)) ∧ Below w.heap.size w w' := by
  have hl := hv.len
  obtain ⟨a1, cap1, rfl⟩ := hv.shape
  by_cases hlong : 64 < xs.length
  · have HN := Lib.hid (wf6_badL hlong)
    have d1 : decide ((64 : Int) < (xs.length : Int)) = true := by rw [decide_eq_true_iff]; omega
    clear hv hlong
    go_enter Try.func33, Try.ntmps33
    go_wp2
    go_ret
    exact ⟨by rw [HN.out]; rfl, Below.refl _ _⟩
  have d1 : decide ((64 : Int) < (xs.length : Int)) = false := by rw [decide_eq_false_iff_not]; omega
  by_cases h0 : 0 < xs.length
  · obtain ⟨b1, o1, rfl, -, -, -, hbl, hat⟩ := Crow.opn hv h0
    have HAT := Lib.hid hat
    have HLG := Lib.hid (show xs.length ≤ 64 by omega)
    clear hv hat hlong
    go_enter Try.func33, Try.ntmps33
    go_wp2
    go_loopw [10] (fun s10 wr => ∃ k : Nat, k ≤ xs.length ∧ s10 = .int .i64 k ∧ Hid (RiseC (xs.take k) ∧ (xs.take k).all gOk = true) ∧ Below w.heap.size w wr) (fun s10 _ => xs.length - (intOf s10).toNat)
    case atStart => exact ⟨0, Nat.zero_le _, rfl, Lib.hid ⟨crise_zero, rfl⟩, Below.refl _ _⟩
    case round =>
      obtain ⟨k, hk, rfl, HP, hb⟩ := hrel
      by_cases hlt : k < xs.length
      · obtain ⟨c0, c1, c2, c3, c4, c5⟩ := (HAT.out k hlt).below hb hbl
        have hsz := hb.size
        have hVS := fun h => gok_step hlt HP.out.2 h
        have hVB := fun h => wf6_badV (gok_bad hlt h)
        have hNQ := fun w => vneq xs[k].k xs[k].n xs[k].f 0 0 0 xs[k].s ⟨#[]⟩ w
        have hZ : zv xs[k] = ((xs[k].k == 0) && (xs[k].n == 0) && (xs[k].f == 0) && (xs[k].s.toList == (⟨#[]⟩ : ByteArray).toList)) := rfl
        have hG : gOk xs[k] = (!xs[k].g || zv xs[k]) := rfl
        rw [← hZ] at hNQ
        cases k with
        | zero =>
          have HR1 := Lib.hid (show RiseC (xs.take (0 + 1)) from crise_one)
          rw [hG] at hVS hVB
          generalize zv xs[0] = z at *
          generalize xs[0] = x at *
          clear hG hZ
          obtain ⟨x1, x0, x2, x3, x4, x5⟩ := x
          simp only at c0 c1 c2 c3 c4 c5 hVS hVB hNQ
          simp only [Nat.zero_mul, Nat.add_zero] at c0 c1 c2 c3 c4 c5
          have hbx := CBox.box ⟨x1, x0, x2, x3, x4, x5⟩ wr 52
          obtain ⟨g0, g1, g2, g3, g4, g5⟩ := hbx
          have HB := Lib.hid (hb.alloc hb.size (.cells (cca ⟨x1, x0, x2, x3, x4, x5⟩) 52))
          clear hb
          cases x0
          · have HVS := Lib.hid (hVS rfl)
            clear hVS hVB
            go_wp2
            go_quiet (fail)
            go_wp2
            go_roundw
            case rel => exact ⟨0 + 1, by omega, by go_num, Lib.hid ⟨HR1.out, HVS.out⟩, blw_drewN HB.out _⟩
            case measure => simp [intOf]; omega
          · cases z
            · have HVB := Lib.hid (hVB rfl)
              clear hVS hVB
              go_wp2
              go_quiet (fail)
              go_wp2
              go_ret
              exact ⟨by rw [HVB.out]; rfl, blw_drewN HB.out _⟩
            · have HVS := Lib.hid (hVS rfl)
              clear hVS hVB
              go_wp2
              go_quiet (fail)
              go_wp2
              go_roundw
              case rel => exact ⟨0 + 1, by omega, by go_num, Lib.hid ⟨HR1.out, HVS.out⟩, blw_drewN HB.out _⟩
              case measure => simp [intOf]; omega
        | succ j =>
          have hjl : j < xs.length := by omega
          have hRS := fun h => crise_step hlt HP.out.1 h
          have hRB := fun h => wf6_badR (crise_bad hlt h)
          have hj1 : ((j + 1 : Nat) : Int) = (j : Int) + 1 := by omega
          have hwr : IntKind.i64.wrap (j : Int) = (j : Int) := by have := HLG.out; rw [IntKind.wrap_i64]; omega
          obtain ⟨p0, -, -, -, -, -⟩ := ((HAT.out j hjl).below hb hbl).below ((Below.refl _ _).alloc (Nat.le_refl _) (.cells (cca xs[j + 1]) 52)) (by omega : b1 < wr.heap.size)
          rw [hG] at hVS hVB
          generalize zv xs[j + 1] = z at *
          generalize xs[j + 1] = x at *
          generalize xs[j].key = y at *
          clear hG hZ
          rw [hj1]
          obtain ⟨x1, x0, x2, x3, x4, x5⟩ := x
          simp only at c0 c1 c2 c3 c4 c5 hVS hVB hNQ hRS hRB p0
          have hbx := CBox.box ⟨x1, x0, x2, x3, x4, x5⟩ wr 52
          obtain ⟨g0, g1, g2, g3, g4, g5⟩ := hbx
          have HB := Lib.hid (hb.alloc hb.size (.cells (cca ⟨x1, x0, x2, x3, x4, x5⟩) 52))
          clear hb
          by_cases hle : x1 ≤ y
          · have e1 : decide (x1 ≤ y) = true := by simpa using hle
            have HVB := Lib.hid (hRB (by omega))
            clear hVS hVB hRS hRB hle
            go_wp2
            go_quiet (fail)
            go_wp2
            go_ret
            exact ⟨by rw [HVB.out]; rfl, blw_drewN HB.out _⟩
          · have e1 : decide (x1 ≤ y) = false := by simpa using hle
            have HRS := Lib.hid (hRS (by omega))
            clear hRS hRB hle
            cases x0
            · have HVS := Lib.hid (hVS rfl)
              clear hVS hVB
              go_wp2
              go_quiet (fail)
              go_wp2
              go_roundw
              case rel => exact ⟨j + 1 + 1, by omega, by go_num, Lib.hid ⟨HRS.out, HVS.out⟩, blw_drewN HB.out _⟩
              case measure => simp [intOf]; omega
            · cases z
              · have HVB := Lib.hid (hVB rfl)
                clear hVS hVB
                go_wp2
                go_quiet (fail)
                go_wp2
                go_ret
                exact ⟨by rw [HVB.out]; rfl, blw_drewN HB.out _⟩
              · have HVS := Lib.hid (hVS rfl)
                clear hVS hVB
                go_wp2
                go_quiet (fail)
                go_wp2
                go_roundw
                case rel => exact ⟨j + 1 + 1, by omega, by go_num, Lib.hid ⟨HRS.out, HVS.out⟩, blw_drewN HB.out _⟩
                case measure => simp [intOf]; omega
      · obtain rfl : k = xs.length := by omega
        have HB := Lib.hid hb
        have hp := HP.out
        rw [tend] at hp
        have HG := Lib.hid (wf6_good hp.1 HLG.out hp.2)
        clear hb hp
        go_wp2
        go_ret
        exact ⟨by rw [HG.out]; rfl, HB.out⟩
  · obtain rfl : xs = [] := List.eq_nil_of_length_eq_zero (by omega)
    clear hv h0 hl hlong
    go_enter Try.func33, Try.ntmps33
    go_wp2
    refine wp_loop_rounds 1 ?_
    rw [rounds_succ]
    go_wp2
    go_ret
    exact ⟨rfl, Below.refl _ _⟩
end Go.Proofs.Ytkejebjppnhidaa
