
import Derived.Test.YteodfbkfpboehaaEF
/- EG: runs put in the place of others; records taken out -/
namespace Go.Proofs.Yteodfbkfpboehaa
open Go.RowKit
set_option linter.unusedVariables false
set_option maxRecDepth 100000

/-- The blocks of runs' sets. -/
def NewB (xs : List Ck) (k : Nat) : Prop := ∃ x ∈ xs, x.d.v.ownBlock = some k
section
variable {S : Nat → Prop} {tb rb : Nat} {l : List (List Att)} {w w' W : World}
theorem tq_put {D : Sv → Prop} {Q : Nat} (R : TC) (h : Sq D Q S tb R.id [R] w) (hf : flat (R.el Wc) = l ∧ Pr (R.el Wc)) (hlt : ∀ k, S k → k < w.heap.size) (i j : Nat) (hij : i ≤ j) (hj : j ≤ l.length) (v : Value) (xs : List Ck)
    (hv : Row CkC w v xs) (hvb : ∀ k, v.ownBlock = some k → k < w.heap.size ∧ ¬ S k ∧ ¬ NewB xs k)
    (hd : ∀ x ∈ xs, Arow w x.d.v x.d.s ∧ x.d.s.length ≤ 100000 ∧ ∀ k, x.d.v.ownBlock = some k → ¬ S k ∧ k < w.heap.size) (hQ : Q + Wc.wt xs ≤ 1300000000) :
    Calls Try.prog 30 #[.pointer (some ⟨tb, 0, none⟩), .int .i64 (i : Nat), .int .i64 (j : Nat), v] w fun e w' => e = .returned (.tuple #[]) ∧ ∃ S2 : Nat → Prop, Tq S2 tb (l.take i ++ (flat xs ++ l.drop j)) w' ∧ (∀ k, S2 k → S k ∨ NewB xs k ∨ w.heap.size ≤ k) ∧ Off (fun k => S k ∨ NewB xs k) w w' := by
  have hS1 : Sq (fun d => D d ∨ ∃ x ∈ xs, x.d = d) Q (fun k => (S k ∨ NewB xs k) ∨ w.heap.size ≤ k) tb R.id [R] w := by
    refine h.grow (fun k hk => .inl (.inl hk)) (fun d hd => .inl hd) (fun d hd' => ?_)
    rcases hd' with hd' | ⟨x, hx, rfl⟩
    · exact .inl hd'
    · obtain ⟨q1, q2, q3⟩ := hd x hx
      exact .inr ⟨q1, q2, fun k hk => ⟨.inl (.inr ⟨x, hx, hk⟩), (q3 k hk).1, (q3 k hk).2⟩⟩
  have hl : Wc.ln (R.el Wc) = l.length := by rw [← hf.1, flat_len]; rfl
  refine (splice_any R i j hij (by rw [hl]; exact hj) hf.2 v xs hS1 (fun k hk => .inr hk) (fun W hW => hv.keep (fun k hk => hW.block k (hvb k hk).1 (fun hs => ?_))) hQ (fun x hx => .inr ⟨x, hx, rfl⟩)).mono ?_
  · rcases hs with (hs | hs) | hs
    · exact (hvb k hk).2.1 hs
    · exact (hvb k hk).2.2 hs
    · have := (hvb k hk).1; omega
  rintro e w' ⟨rfl, R', q1, q2, q3, q4⟩
  have hc := q3.cut
  refine ⟨rfl, _, ⟨_, R', ⟨hc.1, ?_⟩, ⟨by rw [q1, hf.1], q2⟩, fun k hk => hk.2⟩, fun k hk => ?_, Off.cut q4⟩
  · rw [tot_cons, tot_nil]
    have := wt_flat q2
    rw [q1, hf.1] at this
    exact this
  · rcases hk.1 with (hk | hk) | hk
    · exact .inl hk
    · exact .inr (.inl hk)
    · exact .inr (.inr hk)
/-- What Delete leaves. -/
def delL (l : List (List Att)) (i j : Int) : List (List Att) := if mrE l.length i j = 0 then l.take i.toNat ++ l.drop j.toNat else l
theorem wq_le {l : List (List Att)} (h : l.length ≤ 100000) : wq l ≤ 1200000000 := by unfold wq; omega
set_option maxHeartbeats 1000000 in
theorem pa_delete0 (h : Rp S rb l w) (hlt : ∀ k, S k → k < w.heap.size) (hl : l.length ≤ 100000) (i j : Nat) (hij : i ≤ j) (hj : j ≤ l.length) :
    Calls Try.prog 12 #[.pointer (some ⟨rb, 0, none⟩), .int .i64 (i : Nat), .int .i64 (j : Nat)] w fun e w' => e = .returned (.int .i64 0) ∧ Rp (fun k => UpS S w k ∧ k < w'.heap.size) rb (l.take i ++ l.drop j) w' ∧ Off S w w' := by
  have HRE := Lib.hid (pa_reach h (i : Nat) (j : Nat))
  rw [mrE_yes (by omega)] at HRE
  have H0 := Lib.hid h
  have HLT := Lib.hid hlt
  have HIJ := Lib.hid (And.intro hij hj)
  have HQ := Lib.hid (wq_le hl)
  clear h hlt hl hij hj
  go_enter Try.func12, Try.ntmps12
  go_wp2_with (first
    | (go_at_call 27; refine HRE.out.mono ?_; rintro e w1 ⟨rfl, bb⟩; have B1 := Lib.hid bb; have H1 := Lib.hid (H0.out.below bb); clear bb)
    | (go_at_call 29; refine (pa_write H1.out).mono ?_; rintro e w2 ⟨tb, S', rfl, cc, ⟨D, R, q1, q2, q3⟩, hs, oo⟩; have C2 := Lib.hid cc; have T2 := Lib.hid q1; have E2 := Lib.hid q2; have L2 := Lib.hid q3; have HS2 := Lib.hid hs; have O2 := Lib.hid oo; clear cc q1 q2 q3 hs oo)
    | (go_at_call 30; refine (tq_put R T2.out E2.out L2.out i j HIJ.out.1 HIJ.out.2 (.slice none 0 0) [] (Row.nil _) (fun k hk => by cases hk) (fun x hx => by cases hx) (by rw [Way.wt_nil]; have := HQ.out; omega)).mono ?_; rintro e w3 ⟨rfl, S2, q1, q2, oo⟩; have T3 := Lib.hid q1; have HS3 := Lib.hid q2; have O3 := Lib.hid oo; clear q1 q2 oo))
  go_ret
  have hz1 := B1.out.size
  have hz2 := O2.out.size
  have hz3 := O3.out.size
  have ho : Off S w w2 := Off.below_l B1.out O2.out
  have hrb := H0.out.mem
  have hmap : ∀ k, S' k → UpS S w k ∧ k ≠ rb := fun k hk => ⟨(HS2.out k hk).1.elim .inl (fun h => .inr (by omega)), (HS2.out k hk).2⟩
  have hoff : Off (UpS S w) w2 w3 := O3.out.mono (fun k hk => by
    rcases hk with hk | ⟨x, hx, -⟩
    · exact (hmap k hk).1
    · cases hx)
  have hcb := C2.out.off O3.out (fun hk => by
    rcases hk with hk | ⟨x, hx, -⟩
    · exact (hmap _ hk).2 rfl
    · cases hx)
  refine ⟨rfl, Rp.cut (.inr ⟨tb, S2, hcb, ?_, fun k hk => ?_, .inl hrb.1⟩), ((ho.mono (fun k hk => .inl hk)).seq hoff).unup⟩
  · have := T3.out
    rwa [flat_nil, List.nil_append] at this
  · rcases HS3.out k hk with hk | ⟨x, hx, -⟩ | hk
    · exact hmap k hk
    · cases hx
    · exact ⟨.inr (by omega), by omega⟩
theorem pa_delete5 (h : Rp S rb l w) (i j : Int) (hr : ¬ (0 ≤ i ∧ i ≤ j ∧ j ≤ (l.length : Nat))) :
    Calls Try.prog 12 #[.pointer (some ⟨rb, 0, none⟩), .int .i64 i, .int .i64 j] w fun e w' => e = .returned (.int .i64 5) ∧ Below w.heap.size w w' := by
  have HRE := Lib.hid (pa_reach h i j)
  rw [mrE_no hr] at HRE
  clear h hr
  go_enter Try.func12, Try.ntmps12
  go_wp2_with (go_at_call 27; refine HRE.out.mono ?_; rintro e w1 ⟨rfl, bb⟩; have B1 := Lib.hid bb; clear bb)
  go_ret
  exact ⟨rfl, B1.out⟩
theorem pa_delete (h : Rp S rb l w) (hlt : ∀ k, S k → k < w.heap.size) (hl : l.length ≤ 100000) (i j : Int) :
    Calls Try.prog 12 #[.pointer (some ⟨rb, 0, none⟩), .int .i64 i, .int .i64 j] w fun e w' => e = .returned (.int .i64 (mrE l.length i j)) ∧ ∃ S', Rp S' rb (delL l i j) w' ∧ (∀ k, S' k → (S k ∨ w.heap.size ≤ k) ∧ k < w'.heap.size) ∧ Off S w w' := by
  by_cases hr : 0 ≤ i ∧ i ≤ j ∧ j ≤ (l.length : Nat)
  · obtain ⟨i', rfl⟩ : ∃ k : Nat, i = k := ⟨i.toNat, by omega⟩
    obtain ⟨j', rfl⟩ : ∃ k : Nat, j = k := ⟨j.toNat, by omega⟩
    refine (pa_delete0 h hlt hl i' j' (by omega) (by omega)).mono ?_
    rintro e w' ⟨rfl, q1, q2⟩
    refine ⟨by rw [mrE_yes hr], _, ?_, fun k hk => hk, q2⟩
    unfold delL
    rw [if_pos (mrE_yes hr)]
    exact q1
  · refine (pa_delete5 h i j hr).mono ?_
    rintro e w' ⟨rfl, hb⟩
    refine ⟨by rw [mrE_no hr], S, ?_, fun k hk => ⟨.inl hk, Nat.lt_of_lt_of_le (hlt k hk) hb.size⟩, Off.of_below hb⟩
    unfold delL
    rw [mrE_no hr, if_neg (by decide)]
    exact h.below hb
end
end Go.Proofs.Yteodfbkfpboehaa
