
import Derived.Test.YtoienmcgcefdiaaS20
import Derived.Test.YtoienmcgcefdiaaS12
import Derived.Test.YtoienmcgcefdiaaS13
import Derived.BigQuiet
import Derived.Deep.QuietTactic
import Derived.Deep.AppendLies
/- S23: SchemaKeys -/
namespace Go.Proofs.Ytoienmcgcefdiaa
open Go.RowKit
set_option linter.unusedVariables false

theorem own6_empty (w : World) (o : Obj) (e : TypeId) : ((w.alloc o).alloc (.cells #[] e)).ownsRow (w.heap.size + 1) e 6 (.slice (some ⟨w.heap.size + 1, 0, none⟩) 0 0) 0 [] := by
  have h := heap_alloc_new (w.alloc o) (.cells #[] e)
  simp only [World.size_alloc] at h
  exact ⟨by simp, .inr ⟨w.heap.size + 1, 0, #[], rfl, Nat.le_refl _, h, Nat.le_refl _, by simp, by simp, by simp⟩⟩

set_option maxRecDepth 100000 in
theorem keys_long (v : Value) (ks : List Key) (id k n f : Int) (s : ByteArray) (w : World) (hv : Krow w v ks) (hl : 200 < ks.length) :
    Calls Try.prog 3 #[v, .int .i64 id, val k n f s] w fun e w' => e = .returned (.bool true) ∧ Below w.heap.size w w' := by
  have HKN := Lib.hid (fun w => skn_any w)
  have hb := hv.len
  obtain ⟨a, cap, rfl⟩ := hv.shape
  have hB := (Below.refl w.heap.size w).alloc (Nat.le_refl _) (.cells (vcells k n f s) 25)
  clear hv
  go_enter Try.func3, Try.ntmps3
  go_wp2_with (go_at_call 7; refine (HKN.out _).mono ?_; rintro e w' ⟨rfl, hb⟩)
  go_ret
  exact ⟨rfl, below_add hB hb hB.size⟩

set_option maxRecDepth 100000 in
theorem keys_text (v : Value) (ks : List Key) (id k n f : Int) (s : ByteArray) (w : World) (hv : Krow w v ks) (hl : ¬ 200 < ks.length) (hs : 1000 < s.size) (hsm : s.size ≤ maxLen) :
    Calls Try.prog 3 #[v, .int .i64 id, val k n f s] w fun e w' => e = .returned (.bool true) ∧ Below w.heap.size w w' := by
  have HKN := Lib.hid (fun w => skn_any w)
  obtain ⟨a, cap, rfl⟩ := hv.shape
  have hB := (Below.refl w.heap.size w).alloc (Nat.le_refl _) (.cells (vcells k n f s) 25)
  clear hv
  unfold maxLen at hsm
  go_enter Try.func3, Try.ntmps3
  go_wp2_with (go_at_call 7; refine (HKN.out _).mono ?_; rintro e w' ⟨rfl, hb⟩)
  go_ret
  exact ⟨rfl, below_add hB hb hB.size⟩

set_option maxRecDepth 100000 in
set_option maxHeartbeats 4000000 in
theorem keys_bad (v : Value) (ks : List Key) (id k n f : Int) (s : ByteArray) (w : World) (hv : Krow w v ks) (hW : ∀ k ∈ ks, KeyW k) (hl : ¬ 200 < ks.length) (h0 : 0 < ks.length) (hs : s.size ≤ 1000) (hm : ¬ mayKs ks) :
    Calls Try.prog 3 #[v, .int .i64 id, val k n f s] w fun e w' => e = .returned (.bool true) ∧ Below w.heap.size w w' := by
  have HKN := Lib.hid (fun w => skn_any w)
  obtain ⟨i0, hi, hz0, hz1, hz2⟩ := info_parts infoKey
  have HV := Lib.hid hv
  have HN := Lib.hid (fun v2 W (hv2 : Krow W v2 ks) => new_no hv2 hW hm)
  have HRM := Lib.hid (fun W hb => (rmay_keys v ks W (hv.below hb (Nat.le_refl _))).mono fun e w' (h : MayPost ks W e w') => show e = .returned (.bool false) ∧ Below W.heap.size W w' by
    obtain ⟨h1, b, h2, h3⟩ := h
    cases b
    · exact ⟨h2, h1⟩
    · exact absurd (h3.1 rfl) hm)
  obtain ⟨a, cap, hva⟩ := hv.shape
  subst hva
  clear hv hm
  have d1 : decide ((200 : Int) < (ks.length : Int)) = false := by rw [decide_eq_false_iff_not]; omega
  go_enter Try.func3, Try.ntmps3
  go_wp2_with (first
    | (at_builtin; refine wpList_append_keys rfl (.tmp 32) (.tmp 33) 22 rfl (w.heap.size + 1) 32 i0 (kv noKey) 24 Try.underlying22 hi hz0 hz1 hz2 rfl (.slice (some ⟨w.heap.size + 1, 0, none⟩) 0 0) 0 [] rfl (own6_empty w _ _) (.slice a ks.length cap) ks rfl (HV.out.below (kbelow_two w _ _) (Nat.le_refl _)) (by unfold maxLen; omega) (by omega) (by simp only [World.size_alloc]; omega) ?_; intro v1 w1 hown1 hgrow1; simp only [Nat.zero_add, List.nil_append] at hown1; obtain ⟨g, cap2, rfl, hgb, hgl⟩ := hown1.form h0)
    | (go_at_call 8; ((with_reducible refine (HN.out _ _ (Krow.of_owns hown1).1).mono ?_); rintro e w2 ⟨rfl, hb2⟩)))
  have hB1 := (kbelow_two w (.cells (vcells k n f s) 25) (.cells #[] 32)).grown hgrow1 (by simp only [World.size_alloc]; omega) (fun q hq => by simp [Value.ownBlock] at hq; omega)
  have hini := id_init (owns_below hown1 hb2) rfl
  have HB2 := Lib.hid (below_add hB1 hb2 hB1.size)
  have hgw : w.heap.size ≤ g := by omega
  clear hown1 hgrow1 hb2 hB1 hgb hgl
  go_loopw [42] (fun i wr => ∃ j : Nat, j ≤ ks.length ∧ i = .int .i64 j ∧ IdRel w2 g cap2 ks.length wr) (fun i _ => ks.length - (intOf i).toNat)
  case atStart => exact ⟨0, Nat.zero_le _, rfl, hini⟩
  case round =>
    obtain ⟨j, hj, rfl, hR⟩ := hrel
    by_cases hlt : j < ks.length
    · obtain ⟨z, c0, f0⟩ := id_open hR hlt
      have HST := Lib.hid (fun y => id_step hR hlt y)
      clear hR
      go_wp2
      go_roundw
      case rel => exact ⟨j + 1, by omega, by go_num, HST.out _⟩
      case measure => simp [intOf]; omega
    · obtain ⟨xs, -, -, hbg, -⟩ := hR
      have HBR := Lib.hid (HB2.out.trans (hbg.mono hgw))
      clear hbg
      go_wp2_with (first
        | (go_at_call 9; ((with_reducible refine (HRM.out _ HBR.out).mono ?_); rintro e w3 ⟨rfl, hb3⟩))
        | (go_at_call 7; refine (HKN.out _).mono ?_; rintro e w4 ⟨rfl, hb4⟩))
      go_ret
      have hB4 := below_add HBR.out hb3 HBR.out.size
      exact ⟨rfl, below_add hB4 hb4 hB4.size⟩
end Go.Proofs.Ytoienmcgcefdiaa
