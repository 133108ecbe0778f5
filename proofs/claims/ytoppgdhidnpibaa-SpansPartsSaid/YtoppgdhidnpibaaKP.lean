
import Derived.Test.YtoppgdhidnpibaaKO
import Derived.RangeFuncNested
/- KP: All -/
namespace Go.Proofs.Ytoppgdhidnpibaa
open Go.RowKit Go.Shelf
set_option linter.unusedVariables false
set_option maxRecDepth 100000
attribute [local go_sem] Oper.semAt_some

/-- What a round keeps: all that lay below n0, but for some. -/
structure KpX (n0 : Nat) (X : Nat → Prop) (W W' : World) : Prop where
  os : W'.os = W.os
  tape : W'.tape = W.tape
  output : W'.output = W.output
  size : W.heap.size ≤ W'.heap.size
  keep : ∀ k, k < n0 → k < W.heap.size → ¬ X k → W'.heap[k]? = W.heap[k]?
section
variable {n0 : Nat} {X S : Nat → Prop} {W W' W1 w w' : World} {rb bx : Nat} {l : List Int}
theorem KpX.refl (n0 : Nat) (X : Nat → Prop) (W : World) : KpX n0 X W W := ⟨rfl, rfl, rfl, Nat.le_refl _, fun _ _ _ _ => rfl⟩
theorem KpX.trans (h : KpX n0 X W W1) (k : KpX n0 X W1 W') : KpX n0 X W W' := ⟨k.os.trans h.os, k.tape.trans h.tape, k.output.trans h.output, Nat.le_trans h.size k.size, fun i hi hl hx => (k.keep i hi (Nat.lt_of_lt_of_le hl h.size) hx).trans (h.keep i hi hl hx)⟩
theorem KpX.of_below (h : Below W.heap.size W W') : KpX n0 X W W' := ⟨h.os, h.tape, h.output, h.size, fun k _ hk _ => h.block k hk⟩
theorem KpX.of_off (h : Off X W W') : KpX n0 X W W' := ⟨h.os, h.tape, h.output, h.size, fun k _ hk hx => h.block k hk hx⟩
theorem KpX.off (h : KpX n0 X W W') : Off (fun k => X k ∨ n0 ≤ k) W W' := ⟨h.os, h.tape, h.output, h.size, fun k hk hx => h.keep k (by
  rcases Nat.lt_or_ge k n0 with h | h
  · exact h
  · exact absurd (.inr h) hx) hk (fun hh => hx (.inl hh))⟩
theorem KpX.rp (h : KpX n0 X W W') (ht : Rp S rb l W) (hS : ∀ k, S k → k < n0 ∧ ¬ X k) : Rp S rb l W' := ht.off h.off (fun k hk hh => by
  have := hS k hk
  rcases hh with hh | hh
  · exact this.2 hh
  · omega)
theorem KpX.cb {b : Nat} {t : TypeId} {cs : Array Value} (h : KpX n0 X W W') (hc : Cb b t cs W) (hb : b < n0 ∧ ¬ X b) : Cb b t cs W' := hc.off h.off (fun hh => by
  rcases hh with hh | hh
  · exact hb.2 hh
  · omega)
theorem all_any (p : Option Addr) (w : World) : Calls Try.prog 11 #[.pointer p] w fun e w' => ∃ bx, e = .returned (.func (.func 27) #[] #[.pointer (some ⟨bx, 0, none⟩)]) ∧ Cb bx 26 #[.pointer p] w' ∧ w.heap.size ≤ bx ∧ Below w.heap.size w w' := by
  have H1 := Lib.hid (cb_new w 26 #[.pointer p])
  have H2 := Lib.hid ((Below.refl w.heap.size w).alloc (Nat.le_refl _) (.cells #[.pointer p] 26))
  go_enter Try.func11, Try.ntmps11
  go_wp2
  go_ret
  exact ⟨_, rfl, H1.out, Nat.le_refl _, H2.out⟩
set_option maxHeartbeats 2000000 in
theorem all1_sp (n ln : Nat) (hn : 3 ≤ n) (J Jx : List Ck → World → Prop) (hJB : ∀ pre W W', J pre W → Below W.heap.size W W' → J pre W') (hS : ∀ k, S k → k < n0 ∧ ¬ X k) (hbx : bx < n0 ∧ ¬ X bx)
    (hY : ∀ (pre : List Ck) (x : Ck) (W1 : World), J pre W1 → pre.length < (rl l).length → YieldAt Fence.wide (n - 1) Try.prog ln #[cvs x] W1 fun e W' =>
      (e = .returned (.bool true) ∧ J (pre ++ [x]) W' ∧ KpX n0 X W1 W') ∨ (e = .returned (.bool false) ∧ Jx (pre ++ [x]) W'))
    (W : World) (hc : Cb bx 26 #[.pointer (some ⟨rb, 0, none⟩)] W) (ht : Rp S rb l W) (hq : wq l ≤ 4000000000) (h0 : J [] W) :
    CallsIn Fence.wide n Try.prog 27 #[.func (.yield ln) #[] #[], .pointer (some ⟨bx, 0, none⟩)] W fun e W' => (∃ v, e = .returned v) ∧ ((∃ ys, ys = rl l ∧ J ys W') ∨ (∃ pre, pre <+: rl l ∧ Jx pre W')) := by
  have HTB := Lib.hid (fun (wr : World) (hk : KpX n0 X W wr) => (show Rp S rb l wr ∧ Cb bx 26 #[.pointer (some ⟨rb, 0, none⟩)] wr from ⟨hk.rp ht hS, hk.cb hc hbx⟩))
  have HY := Lib.hid hY
  have HJB := Lib.hid hJB
  have HQ := Lib.hid hq
  have hcnt : (rl l).length ≤ 400000 := by unfold wq cntR at hq; omega
  obtain ⟨L, hL⟩ : ∃ L, rl l = L := ⟨_, rfl⟩
  have HL := Lib.hid hL
  have HCN : Hid (cntR l = L.length) := Lib.hid (by rw [← hL]; rfl)
  rw [hL] at HY hcnt ⊢
  clear hY ht hc hJB hS hbx hq hL
  refine callsIn_of_wp Try.func27 rfl trivial ?_ rfl
  simp only [Try.ntmps27, List.size_toArray, List.length_cons, List.length_nil, Nat.reduceAdd, Nat.reduceSub, Array.replicate_succ, Array.replicate_zero, List.push_toArray, List.append_toArray, List.nil_append, List.cons_append]
  gi_wp2
  gi_loopw [3] (fun s3 wr => ∃ k : Nat, k ≤ L.length ∧ s3 = .int .i64 k ∧ KpX n0 X W wr ∧ J (L.take k) wr) (fun s3 _ => L.length - (intOf s3).toNat)
  case atStart => exact ⟨0, Nat.zero_le _, rfl, KpX.refl _ _ _, h0⟩
  case round =>
    obtain ⟨k, hk, rfl, hkp, hJ⟩ := hrel
    rename_i wr
    obtain ⟨hT, hcb⟩ := HTB.out wr hkp
    have HC := Lib.hid (sp_count hT)
    rw [HCN.out] at HC
    have HK := Lib.hid hkp
    have HJ := Lib.hid hJ
    have HCB := Lib.hid hcb
    have cb : wr.cell? ⟨bx, 0, none⟩ = some (.pointer (some ⟨rb, 0, none⟩)) := hcb.cell 0
    by_cases hlt : k < L.length
    · have g1 : decide ((k : Int) < (L.length : Int)) = true := by rw [decide_eq_true_iff]; omega
      have g2 : decide (k < L.length) = true := decide_eq_true hlt
      have HSP := Lib.hid (fun (w' : World) (hb : Below wr.heap.size wr w') => sp_span (hT.below hb) HQ.out k L[k] (by rw [HL.out]; exact List.getElem?_eq_getElem hlt))
      have HU := Lib.hid (show L.take (k + 1) = L.take k ++ [L[k]] from List.take_succ_eq_append_getElem hlt)
      have HYQ := Lib.hid (fun (w' : World) (hb : Below wr.heap.size wr w') => HY.out (L.take k) L[k] w' (HJB.out _ _ _ HJ.out hb) (by rw [List.length_take]; omega))
      obtain ⟨x, hx⟩ : ∃ x, L[k] = x := ⟨_, rfl⟩
      rw [hx] at HSP HU HYQ
      clear hT hcb hkp hJ hx HY
      gi_wp2_with (first
        | (refine ⟨trivial, fun h => (by cases h), ?_⟩; gi_at_call 16; refine (callsIn_wide.2 HC.out).mono ?_; rintro e w1 ⟨rfl, b1⟩; have B1 := Lib.hid b1; have cb1 : w1.cell? ⟨bx, 0, none⟩ = some (.pointer (some ⟨rb, 0, none⟩)) := (HCB.out.below b1).cell 0; clear b1)
        | (refine ⟨trivial, fun h => (by cases h), ?_⟩; gi_at_call 28; refine (callsIn_wide.2 (HSP.out _ B1.out)).mono ?_; rintro e w2 ⟨rfl, b2⟩; have B2 := Lib.hid (below_add B1.out b2 B1.out.size); obtain ⟨fn, tmps, assign, body, hy, hR⟩ := HYQ.out w2 (below_add B1.out b2 B1.out.size); clear b2))
      refine ⟨fun h => (by cases h), hR.mono ?_⟩
      rintro e W' (⟨rfl, hJ', hk'⟩ | ⟨rfl, hJx'⟩)
      · gi_wp2
        go_roundw
        case rel => exact ⟨k + 1, by omega, by go_num, (HK.out.trans (KpX.of_below B2.out)).trans hk', by rw [HU.out]; exact hJ'⟩
        case measure => simp [intOf]; omega
      · gi_wp2
        refine bodyPost_ret (results_none rfl _ _ _) rfl ?_
        exact ⟨⟨_, rfl⟩, .inr ⟨_, by rw [← HU.out]; exact List.take_prefix _ _, hJx'⟩⟩
    · obtain rfl : k = L.length := by omega
      have g1 : decide ((L.length : Int) < (L.length : Int)) = false := by rw [decide_eq_false_iff_not]; omega
      have HJ9 := Lib.hid (show ∀ w', Below wr.heap.size wr w' → J L w' from fun w' hb => by have := HJB.out _ _ _ HJ.out hb; rwa [List.take_of_length_le (Nat.le_refl _)] at this)
      clear hT hcb hkp hJ HY
      gi_wp2_with (refine ⟨trivial, fun h => (by cases h), ?_⟩; gi_at_call 16; refine (callsIn_wide.2 HC.out).mono ?_; rintro e w1 ⟨rfl, b1⟩; have B1 := Lib.hid b1; clear b1)
      go_end0
      exact ⟨⟨_, rfl⟩, .inl ⟨L, rfl, HJ9.out _ B1.out⟩⟩
end
end Go.Proofs.Ytoppgdhidnpibaa
