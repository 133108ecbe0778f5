
import Derived.Test.YteilhjkkgdgbkaaNL
import Derived.Test.YteilhjkkgdgbkaaNH
import Derived.Sort.QuietIn
import Derived.RangeFuncCalls
/- NM: All of an arena that is there; both arenas; marks -/
namespace Go.Proofs.Yteilhjkkgdgbkaa
open Go.RowKit Go.Shelf
set_option linter.unusedVariables false
attribute [local go_sem] Oper.semAt_some

/-- The places below k that are taken, rising; all of them. -/
def uptoA (A : ArS Int) (k : Nat) : List Nat := (List.range k).filter fun i : Nat => A.has (i : Int)
def idsA (A : ArS Int) : List Nat := uptoA A A.ps.length
def valA (A : ArS Int) (k : Nat) : Int := (A.at_ k).getD 0
theorem uptoA_yes {A : ArS Int} {k : Nat} (h : A.has (k : Nat) = true) : uptoA A (k + 1) = uptoA A k ++ [k] := by
  unfold uptoA
  rw [List.range_succ, List.filter_append]
  simp [h]
theorem uptoA_no {A : ArS Int} {k : Nat} (h : A.has (k : Nat) = false) : uptoA A (k + 1) = uptoA A k := by
  unfold uptoA
  rw [List.range_succ, List.filter_append]
  simp [h]
theorem uptoA_pre {A : ArS Int} {k m : Nat} (h : k ≤ m) : uptoA A k <+: uptoA A m := by
  obtain ⟨d, rfl⟩ : ∃ d, m = k + d := ⟨m - k, by omega⟩
  clear h
  induction d with
  | zero => exact List.prefix_refl _
  | succ d ih =>
    refine ih.trans ?_
    rw [show k + (d + 1) = (k + d) + 1 by omega]
    cases hh : A.has ((k + d : Nat) : Int) with
    | true => rw [uptoA_yes hh]; exact List.prefix_append _ _
    | false => rw [uptoA_no hh]; exact List.prefix_refl _
/-- What a round keeps: all below B0, and the box. -/
structure KpT (B0 bx : Nat) (W W' : World) : Prop where
  bel : Below B0 W W'
  box : W'.heap[bx]? = W.heap[bx]?
theorem KpT.refl (B0 bx : Nat) (W : World) : KpT B0 bx W W := ⟨Below.refl _ _, rfl⟩
theorem KpT.trans {B0 bx : Nat} {A B C : World} (h : KpT B0 bx A B) (k : KpT B0 bx B C) : KpT B0 bx A C := ⟨h.bel.trans k.bel, k.box.trans h.box⟩
theorem Ar_6.from {B : Nat} {S : Nat → Prop} {ab : Nat} {A : ArS Int} {n B0 : Nat} {w w' : World} (h : Ar_6 B S ab A n w) (hS : ∀ k, S k → k < B0) (hb : Below B0 w w') : Ar_6 B S ab A n w' :=
  h.kept hb.size (fun k hk hh => hb.block k (hS k hh))

set_option maxRecDepth 100000 in
set_option maxHeartbeats 2000000 in
theorem all1_full {B : Nat} {S : Nat → Prop} {ab : Nat} {A : ArS Int} {nT B0 bx : Nat} (n l : Nat) (hn : 3 ≤ n) (J Jx : List Nat → World → Prop)
    (hY : ∀ (pre : List Nat) (x : Nat) (W1 : World), J pre W1 → pre.length < (idsA A).length → YieldAt Fence.wide (n - 1) Try.prog l #[.int .i64 (x : Nat), .int .i64 (valA A x)] W1 fun e W' =>
      (e = .returned (.bool true) ∧ J (pre ++ [x]) W' ∧ KpT B0 bx W1 W') ∨ (e = .returned (.bool false) ∧ Jx (pre ++ [x]) W'))
    (W : World) (hbx : W.heap[bx]? = some (.cells #[.pointer (some ⟨ab, 0, none⟩)] 23 (0, 0))) (ht : Ar_6 B S ab A nT W) (hSB : ∀ k, S k → k < B0) (hnT : nT ≤ 1000000) (h0 : J [] W) :
    CallsIn Fence.wide n Try.prog 31 #[.func (.yield l) #[] #[], .pointer (some ⟨bx, 0, none⟩)] W fun e W' => (∃ v, e = .returned v) ∧ ((∃ ys, ys = idsA A ∧ J ys W') ∨ (∃ pre, pre <+: idsA A ∧ Jx pre W')) := by
  have HTB := Lib.hid (fun (wr : World) (hk : KpT B0 bx W wr) => (show Ar_6 B S ab A nT wr ∧ wr.cell? ⟨bx, 0, none⟩ = some (.pointer (some ⟨ab, 0, none⟩)) from
    ⟨ht.from hSB hk.bel, by rw [cell_of_row wr bx 0 _ _ _ (hk.box.trans hbx)]; rfl⟩))
  have HY := Lib.hid hY
  have hes := ht.2.2.ps
  clear hY ht hbx
  refine callsIn_of_wp Try.func31 rfl trivial ?_ rfl
  simp only [Try.ntmps31, List.size_toArray, List.length_cons, List.length_nil, Nat.reduceAdd, Nat.reduceSub, Array.replicate_succ, Array.replicate_zero, List.push_toArray, List.append_toArray, List.nil_append, List.cons_append]
  gi_wp2
  gi_loopw [3] (fun s3 wr => ∃ k : Nat, k ≤ A.ps.length ∧ s3 = .int .i64 k ∧ KpT B0 bx W wr ∧ J (uptoA A k) wr) (fun s3 _ => A.ps.length - (intOf s3).toNat)
  case atStart => exact ⟨0, Nat.zero_le _, rfl, KpT.refl _ _ _, h0⟩
  case round =>
    obtain ⟨k, hk, rfl, hkp, hJ⟩ := hrel
    obtain ⟨hT, cb⟩ := HTB.out wr hkp
    have HZ := Lib.hid (caps_6 hT)
    have HK := Lib.hid hkp
    by_cases hlt : k < A.ps.length
    · have g1 : decide ((k : Int) < (A.ps.length : Int)) = true := by rw [decide_eq_true_iff]; omega
      cases hh : A.has (k : Nat) with
      | true =>
        have hpre : (uptoA A k).length < (idsA A).length := by
          have h1 := (uptoA_pre (A := A) (show k + 1 ≤ A.ps.length by omega)).length_le
          rw [uptoA_yes hh, List.length_append] at h1
          exact h1
        obtain ⟨fn, tmps, assign, body, hy, hR⟩ := HY.out (uptoA A k) k wr hJ hpre
        obtain ⟨k', v, e, hv, -⟩ := has_some hh
        have e' : k' = k := by omega
        subst e'
        have hval : valA A k' = v := by unfold valA; rw [hv]; rfl
        rw [hval] at hy
        have HH := Lib.hid (ats_6 hT hnT hv)
        have HU := Lib.hid (uptoA_yes hh)
        clear hT hkp hpre hh hv hval e
        gi_wp2_with (first
          | (refine ⟨trivial, fun h => (by cases h), ?_⟩; gi_at_call 18; refine (callsIn_wide.2 HZ.out).mono ?_; rintro e w1 ⟨rfl, hw⟩; have hw := hw.symm; subst hw)
          | (refine ⟨trivial, fun h => (by cases h), ?_⟩; gi_at_call 15; refine (callsIn_wide.2 HH.out).mono ?_; rintro e w1 ⟨rfl, hw⟩; have hw := hw.symm; subst hw))
        refine ⟨fun h => (by cases h), hR.mono ?_⟩
        rintro e W' (⟨rfl, hJ', hk'⟩ | ⟨rfl, hJx'⟩)
        · gi_wp2
          go_roundw
          case rel => exact ⟨k' + 1, by omega, by go_num, HK.out.trans hk', by rw [HU.out]; exact hJ'⟩
          case measure => simp [intOf]; omega
        · gi_wp2
          refine bodyPost_ret (results_none rfl _ _ _) rfl ?_
          exact ⟨⟨_, rfl⟩, .inr ⟨uptoA A k' ++ [k'], by rw [← HU.out]; exact uptoA_pre (by omega), hJx'⟩⟩
      | false =>
        have HH := Lib.hid (at_not_6 hT hnT hh)
        have HU := Lib.hid (uptoA_no hh)
        have HJ := Lib.hid hJ
        clear hT hkp hh hJ
        gi_wp2_with (first
          | (refine ⟨trivial, fun h => (by cases h), ?_⟩; gi_at_call 18; refine (callsIn_wide.2 HZ.out).mono ?_; rintro e w1 ⟨rfl, hw⟩; have hw := hw.symm; subst hw)
          | (refine ⟨trivial, fun h => (by cases h), ?_⟩; gi_at_call 15; refine (callsIn_wide.2 HH.out).mono ?_; rintro e w1 ⟨rfl, hw⟩; have hw := hw.symm; subst hw))
        refine ⟨fun _ h => (by cases h), ?_⟩
        gi_wp2
        go_roundw
        case rel => exact ⟨k + 1, by omega, by go_num, HK.out, by rw [HU.out]; exact HJ.out⟩
        case measure => simp [intOf]; omega
    · obtain rfl : k = A.ps.length := by omega
      have g1 : decide ((A.ps.length : Int) < (A.ps.length : Int)) = false := by rw [decide_eq_false_iff_not]; omega
      have HJ := Lib.hid hJ
      clear hT hkp hlt hJ
      gi_wp2_with (refine ⟨trivial, fun h => (by cases h), ?_⟩; gi_at_call 18; refine (callsIn_wide.2 HZ.out).mono ?_; rintro e w1 ⟨rfl, hw⟩; have hw := hw.symm; subst hw)
      go_end0
      exact ⟨⟨_, rfl⟩, .inl ⟨_, rfl, HJ.out⟩⟩
end Go.Proofs.Yteilhjkkgdgbkaa
