
import Derived.Test.YteodfbkfpboehaaEH
/- EI: sets put in -/
namespace Go.Proofs.Yteodfbkfpboehaa
open Go.RowKit
set_option linter.unusedVariables false
set_option maxRecDepth 100000

/-- What Insert leaves. -/
def insL (l : List (List Att)) (k : Int) (ls : List (List Att)) : List (List Att) := if mrE l.length k k = 0 then l.take k.toNat ++ (ls ++ l.drop k.toNat) else l
theorem wt_runs {zs : List Ck} (h : ∀ z ∈ zs, 0 < z.n) : Wc.wt zs ≤ 10001 * (flat zs).length := by
  have h1 : zs.length ≤ lnS zs := by
    induction zs with
    | nil => exact Nat.le_refl _
    | cons x r ih =>
      have := ih (fun z hz => h z (List.mem_cons_of_mem _ hz))
      have := h x List.mem_cons_self
      rw [lnS_cons, List.length_cons]; omega
  have h2 : Wc.ln zs = lnS zs := rfl
  rw [flat_len]
  unfold Way.wt
  omega
section
variable {S : Nat → Prop} {tb rb : Nat} {l ls : List (List Att)} {w w' W : World}
set_option maxHeartbeats 1000000 in
theorem pa_insert0 (h : Rp S rb l w) (hlt : ∀ k, S k → k < w.heap.size) (k : Nat) (hk : k ≤ l.length) (v : Value) (hv : ∀ W, Off S w W → Nrow W v ls) (hs : ∀ s ∈ ls, s.length ≤ 100000) (hl : l.length + ls.length ≤ 100000) :
    Calls Try.prog 11 #[.pointer (some ⟨rb, 0, none⟩), .int .i64 (k : Nat), v] w fun e w' => e = .returned (.int .i64 0) ∧ Rp (fun k => UpS S w k ∧ k < w'.heap.size) rb (l.take k ++ (ls ++ l.drop k)) w' ∧ Off S w w' := by
  have HRE := Lib.hid (pa_reach h (k : Nat) (k : Nat))
  rw [mrE_yes (by omega)] at HRE
  have HLN := Lib.hid (fun W (hb : Below w.heap.size w W) => pa_len (h.below hb))
  have H0 := Lib.hid h
  have HLT := Lib.hid hlt
  have HK := Lib.hid hk
  have HQ := Lib.hid (show 10001 * l.length + 10001 * ls.length ≤ 1300000000 by omega)
  have HS := Lib.hid (And.intro hs (show ls.length ≤ 100000 by omega))
  obtain ⟨a, cap, hva⟩ := (hv w (Off.refl _ _)).shape
  subst hva
  have HV := Lib.hid hv
  obtain ⟨n1, hn1⟩ : ∃ n, l.length = n := ⟨_, rfl⟩
  obtain ⟨n2, hn2⟩ : ∃ n, ls.length = n := ⟨_, rfl⟩
  have HN2 := Lib.hid hn2
  rw [hn1] at HLN
  rw [hn2] at HV ⊢
  rw [hn1, hn2] at hl
  have u1 : 0 ≤ 536870912 - ((n1 : Nat) : Int) := by omega
  have u2 : 536870912 - ((n1 : Nat) : Int) ≤ 536870912 := by omega
  have d1 : decide ((536870912 : Int) - ((n1 : Nat) : Int) < ((n2 : Nat) : Int)) = false := decide_eq_false (by omega)
  clear h hlt hk hv hs hl hn1 hn2
  go_enter Try.func11, Try.ntmps11
  go_wp2_with (first
    | (go_at_call 27; refine HRE.out.mono ?_; rintro e w1 ⟨rfl, bb⟩; have B1 := Lib.hid bb; have H1 := Lib.hid (H0.out.below bb); clear bb)
    | (go_at_call 14; refine (HLN.out _ B1.out).mono ?_; rintro e w2 ⟨rfl, bb⟩; have B2 := Lib.hid (below_add B1.out bb B1.out.size); have H2 := Lib.hid (H1.out.below bb); clear bb)
    | (go_at_call 29; refine (pa_write H2.out).mono ?_; rintro e w3 ⟨tb, S', rfl, cc, ⟨D, R, q1, q2, q3⟩, hs, oo⟩; have C3 := Lib.hid cc; have T3 := Lib.hid q1; have E3 := Lib.hid q2; have L3 := Lib.hid q3; have HS3 := Lib.hid hs; have O3 := Lib.hid oo; have V3 := Lib.hid (HV.out _ (Off.below_l B2.out oo)); clear cc q1 q2 q3 hs oo)
    | (go_at_call 31; refine (runsOf_any _ ls _ V3.out HS.out.1 HS.out.2).mono ?_; rintro e w4 ⟨u, zs, rfl, q1, q2, q3, q4, bb⟩; have Z4 := Lib.hid q1; have F4 := Lib.hid q2; have P4 := Lib.hid q3; have B4 := Lib.hid bb; clear q1 q2 q3 q4 bb)
    | (go_at_call 30; refine (tq_put R (T3.out.below B4.out) E3.out (fun q hq => Nat.lt_of_lt_of_le (L3.out q hq) B4.out.size) k k (Nat.le_refl _) HK.out u zs Z4.out.reads.1 (fun q hq => ⟨own_lt7 Z4.out.row hq, fun hs => by have := L3.out q hs; have := own_base Z4.out.row hq; omega, Z4.out.apart q hq⟩) (fun x hx => ⟨Z4.out.reads.2 x hx, HS.out.1 _ (by rw [← F4.out]; exact List.mem_flatMap.2 ⟨x, hx, by rw [List.mem_replicate]; exact ⟨Nat.ne_of_gt (P4.out x hx), rfl⟩⟩), fun q hq => ⟨fun hs => by have := L3.out q hs; have := own_base (Z4.out.sets x hx) hq; omega, own_lt7 (Z4.out.sets x hx) hq⟩⟩) (by have h9 := wt_runs P4.out; rw [F4.out] at h9; have := HQ.out; unfold wq; omega)).mono ?_; rintro e w5 ⟨rfl, S2, q1, q2, oo⟩; have T5 := Lib.hid q1; have HS5 := Lib.hid q2; have O5 := Lib.hid oo; clear q1 q2 oo))
  go_ret
  have hz2 := B2.out.size
  have hz3 := O3.out.size
  have hz4 := B4.out.size
  have hz5 := O5.out.size
  have ho : Off S w w3 := Off.below_l B2.out O3.out
  have hrb := H0.out.mem
  have hmap : ∀ k, S' k → UpS S w k ∧ k ≠ rb := fun k hk => ⟨(HS3.out k hk).1.elim .inl (fun h => .inr (by omega)), (HS3.out k hk).2⟩
  have hnew : ∀ k, NewB zs k → w3.heap.size ≤ k := by
    rintro k ⟨x, hx, hk⟩
    exact own_base (Z4.out.sets x hx) hk
  have hoff : Off (UpS S w) w3 w5 := Off.below_l B4.out (O5.out.mono (fun k hk => by
    rcases hk with hk | hk
    · exact (hmap k hk).1
    · have := hnew k hk; exact .inr (by omega)))
  have hcb := (C3.out.below B4.out).off O5.out (fun hk => by
    rcases hk with hk | hk
    · exact (hmap _ hk).2 rfl
    · have := hnew _ hk; have := C3.out.lt; omega)
  refine ⟨rfl, Rp.cut (.inr ⟨tb, S2, hcb, ?_, fun k hk => ?_, .inl hrb.1⟩), ((ho.mono (fun k hk => .inl hk)).seq hoff).unup⟩
  · have := T5.out
    rwa [F4.out] at this
  · rcases HS5.out k hk with hk | hk | hk
    · exact hmap k hk
    · have := hnew k hk
      exact ⟨.inr (by omega), by omega⟩
    · exact ⟨.inr (by omega), by omega⟩
theorem pa_insert5 (h : Rp S rb l w) (k : Int) (v : Value) (hr : ¬ (0 ≤ k ∧ k ≤ k ∧ k ≤ (l.length : Nat))) :
    Calls Try.prog 11 #[.pointer (some ⟨rb, 0, none⟩), .int .i64 k, v] w fun e w' => e = .returned (.int .i64 5) ∧ Below w.heap.size w w' := by
  have HRE := Lib.hid (pa_reach h k k)
  rw [mrE_no hr] at HRE
  clear h hr
  go_enter Try.func11, Try.ntmps11
  go_wp2_with (go_at_call 27; refine HRE.out.mono ?_; rintro e w1 ⟨rfl, bb⟩; have B1 := Lib.hid bb; clear bb)
  go_ret
  exact ⟨rfl, B1.out⟩
theorem pa_insert (h : Rp S rb l w) (hlt : ∀ k, S k → k < w.heap.size) (k : Int) (v : Value) (hv : ∀ W, Off S w W → Nrow W v ls) (hs : ∀ s ∈ ls, s.length ≤ 100000) (hl : l.length + ls.length ≤ 100000) :
    Calls Try.prog 11 #[.pointer (some ⟨rb, 0, none⟩), .int .i64 k, v] w fun e w' => e = .returned (.int .i64 (mrE l.length k k)) ∧ ∃ S', Rp S' rb (insL l k ls) w' ∧ (∀ k, S' k → (S k ∨ w.heap.size ≤ k) ∧ k < w'.heap.size) ∧ Off S w w' := by
  by_cases hr : 0 ≤ k ∧ k ≤ k ∧ k ≤ (l.length : Nat)
  · obtain ⟨i', rfl⟩ : ∃ i : Nat, k = i := ⟨k.toNat, by omega⟩
    refine (pa_insert0 h hlt i' (by omega) v hv hs hl).mono ?_
    rintro e w' ⟨rfl, q1, q2⟩
    refine ⟨by rw [mrE_yes hr], _, ?_, fun k hk => hk, q2⟩
    unfold insL
    rw [if_pos (mrE_yes hr)]
    exact q1
  · refine (pa_insert5 h k v hr).mono ?_
    rintro e w' ⟨rfl, hb⟩
    refine ⟨by rw [mrE_no hr], S, ?_, fun k hk => ⟨.inl hk, Nat.lt_of_lt_of_le (hlt k hk) hb.size⟩, Off.of_below hb⟩
    unfold insL
    rw [mrE_no hr, if_neg (by decide)]
    exact h.below hb
end
end Go.Proofs.Yteodfbkfpboehaa
