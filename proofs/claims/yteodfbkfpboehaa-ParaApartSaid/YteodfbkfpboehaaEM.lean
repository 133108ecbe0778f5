
import Derived.Test.YteodfbkfpboehaaEL
/- EM: the calls on records as a law takes them -/
namespace Go.Proofs.Yteodfbkfpboehaa
open Go.RowKit Go.Shelf
set_option linter.unusedVariables false
set_option maxRecDepth 100000

/-- What Over tells. -/
def ovL (l : List (List Att)) (i j : Int) : List (List Att) := if mrE l.length i j = 0 then part l i j else []
/-- What At tells. -/
def atL (l : List (List Att)) (i : Int) : List Att := if 0 ≤ i ∧ i < (l.length : Nat) then l.getD i.toNat [] else []
section
variable {S : Nat → Prop} {tb rb : Nat} {l ls : List (List Att)} {w w' W : World}
theorem pa_patch5 (h : Rp S rb l w) (i j : Int) (hr : ¬ (0 ≤ i ∧ i ≤ j ∧ j ≤ (l.length : Nat))) (xa : Option Addr) (xn xc : Nat) :
    Calls Try.prog 13 #[.pointer (some ⟨rb, 0, none⟩), .int .i64 i, .int .i64 j, .slice xa xn xc] w fun e w' => e = .returned (.int .i64 5) ∧ Below w.heap.size w w' := by
  have HRE := Lib.hid (fun W (hb : Below w.heap.size w W) => pa_reach (h.below hb) i j)
  rw [mrE_no hr] at HRE
  have HB0 := Lib.hid ((Below.refl w.heap.size w).alloc (Nat.le_refl _) (.cells #[.slice xa xn xc] 23))
  clear h hr
  go_enter Try.func13, Try.ntmps13
  go_wp2_with (go_at_call 27; refine (HRE.out _ HB0.out).mono ?_; rintro e w1 ⟨rfl, bb⟩; have B1 := Lib.hid (below_add HB0.out bb HB0.out.size); clear bb)
  go_ret
  exact ⟨rfl, B1.out⟩
theorem pa_over5 (h : Rp S rb l w) (i j : Int) (hr : ¬ (0 ≤ i ∧ i ≤ j ∧ j ≤ (l.length : Nat))) :
    Calls Try.prog 10 #[.pointer (some ⟨rb, 0, none⟩), .int .i64 i, .int .i64 j] w fun e w' => e = .returned (.tuple #[.slice none 0 0, .int .i64 5]) ∧ Below w.heap.size w w' := by
  have HRE := Lib.hid (pa_reach h i j)
  rw [mrE_no hr] at HRE
  clear h hr
  go_enter Try.func10, Try.ntmps10
  go_wp2_with (go_at_call 27; refine HRE.out.mono ?_; rintro e w1 ⟨rfl, bb⟩; have B1 := Lib.hid bb; clear bb)
  go_ret2
  exact ⟨rfl, B1.out⟩
theorem pa_patch (h : Rp S rb l w) (hlt : ∀ k, S k → k < w.heap.size) (hl : l.length ≤ 60000) (i j : Int) (xv : Value) (X : List Chg) (hx : ∀ W, Off S w W → Crow W xv X) (hX : X.length ≤ 100000) (hs : ∀ s ∈ l, s.length + X.length ≤ 100000) :
    Calls Try.prog 13 #[.pointer (some ⟨rb, 0, none⟩), .int .i64 i, .int .i64 j, xv] w fun e w' => e = .returned (.int .i64 (mrE l.length i j)) ∧ ∃ S', Rp S' rb (patL l i j X) w' ∧ (∀ k, S' k → (S k ∨ w.heap.size ≤ k) ∧ k < w'.heap.size) ∧ Off S w w' := by
  by_cases hr : 0 ≤ i ∧ i ≤ j ∧ j ≤ (l.length : Nat)
  · obtain ⟨i', rfl⟩ : ∃ k : Nat, i = k := ⟨i.toNat, by omega⟩
    obtain ⟨j', rfl⟩ : ∃ k : Nat, j = k := ⟨j.toNat, by omega⟩
    refine (pa_patch0 h hlt hl i' j' (by omega) (by omega) xv X hx hX hs).mono ?_
    rintro e w' ⟨rfl, q1, q2⟩
    refine ⟨by rw [mrE_yes hr], _, ?_, fun k hk => hk, q2⟩
    unfold patL
    rw [if_pos (mrE_yes hr)]
    exact q1
  · obtain ⟨xa, xc, rfl⟩ := (hx w (Off.refl _ _)).shape
    refine (pa_patch5 h i j hr _ _ _).mono ?_
    rintro e w' ⟨rfl, hb⟩
    refine ⟨by rw [mrE_no hr], S, ?_, fun k hk => ⟨.inl hk, Nat.lt_of_lt_of_le (hlt k hk) hb.size⟩, Off.of_below hb⟩
    unfold patL
    rw [mrE_no hr, if_neg (by decide)]
    exact h.below hb
theorem pa_over (h : Rp S rb l w) (hlt : ∀ k, S k → k < w.heap.size) (hl : l.length ≤ 60000) (i j : Int) :
    Calls Try.prog 10 #[.pointer (some ⟨rb, 0, none⟩), .int .i64 i, .int .i64 j] w fun e w' => ∃ v ss, e = .returned (.tuple #[v, .int .i64 (mrE l.length i j)]) ∧ Sown w.heap.size w.heap.size w' v ss ∧ ss.map Sv.s = ovL l i j ∧ Below w.heap.size w w' := by
  by_cases hr : 0 ≤ i ∧ i ≤ j ∧ j ≤ (l.length : Nat)
  · obtain ⟨i', rfl⟩ : ∃ k : Nat, i = k := ⟨i.toNat, by omega⟩
    obtain ⟨j', rfl⟩ : ∃ k : Nat, j = k := ⟨j.toNat, by omega⟩
    refine (pa_over0 h hlt hl i' j' (by omega) (by omega)).mono ?_
    rintro e w' ⟨v, ss, rfl, q1, q2, q3⟩
    refine ⟨v, ss, by rw [mrE_yes hr], q1, ?_, q3⟩
    unfold ovL
    rw [if_pos (mrE_yes hr)]
    exact q2
  · refine (pa_over5 h i j hr).mono ?_
    rintro e w' ⟨rfl, hb⟩
    refine ⟨_, [], by rw [mrE_no hr], Sown.nil _ _ _, ?_, hb⟩
    unfold ovL
    rw [mrE_no hr, if_neg (by decide)]; rfl
theorem pa_at (h : Rp S rb l w) (hQ : l.length ≤ 60000) (i : Int) : Calls Try.prog 9 #[.pointer (some ⟨rb, 0, none⟩), .int .i64 i] w fun e w' => ∃ u, e = .returned (.tuple #[u, .int .i64 (atE l i)]) ∧ Own5 w w' u (atL l i) ∧ Below w.heap.size w w' := by
  unfold atL atE
  by_cases hi : 0 ≤ i ∧ i < (l.length : Nat)
  · rw [if_pos hi, if_pos hi]
    obtain ⟨k, rfl⟩ : ∃ k : Nat, i = k := ⟨i.toNat, by omega⟩
    exact pa_at_in h (by omega) k (by omega)
  · rw [if_neg hi, if_neg hi]
    refine (pa_at_out h i hi).mono ?_
    rintro e w' ⟨rfl, hb⟩
    exact ⟨_, rfl, own5_nil _ _, hb⟩
end

/-! ### records by the blocks that their calls may touch -/
/-- Records at rb, in blocks of X. -/
def RX (X : Nat → Prop) (rb : Nat) (l : List (List Att)) (w : World) : Prop := ∃ S, Rp S rb l w ∧ ∀ k, S k → X k ∧ k < w.heap.size
/-- What a call leaves. -/
@[reducible] def Left (X : Nat → Prop) (rb : Nat) (l : List (List Att)) (w w' : World) : Prop := RX X rb l w' ∧ Off X w w'
section
variable {X Y : Nat → Prop} {rb : Nat} {l ls : List (List Att)} {w w' W : World}
theorem RX.below (h : RX X rb l w) (hb : Below w.heap.size w w') : RX X rb l w' := by
  obtain ⟨S, h1, h2⟩ := h
  exact ⟨S, h1.below hb, fun k hk => ⟨(h2 k hk).1, Nat.lt_of_lt_of_le (h2 k hk).2 hb.size⟩⟩
theorem RX.off (h : RX X rb l w) (ho : Off Y w w') (hd : ∀ k, X k → ¬ Y k) : RX X rb l w' := by
  obtain ⟨S, h1, h2⟩ := h
  exact ⟨S, h1.off ho (fun k hk => hd k (h2 k hk).1), fun k hk => ⟨(h2 k hk).1, Nat.lt_of_lt_of_le (h2 k hk).2 ho.size⟩⟩
theorem RX.mono (h : RX X rb l w) (hS : ∀ k, k < w.heap.size → X k → Y k) : RX Y rb l w := by
  obtain ⟨S, h1, h2⟩ := h
  exact ⟨S, h1, fun k hk => ⟨hS k (h2 k hk).2 (h2 k hk).1, (h2 k hk).2⟩⟩
theorem left_of {S : Nat → Prop} (hup : Up X w) (hS : ∀ k, S k → X k ∧ k < w.heap.size) (h : ∃ S', Rp S' rb l w' ∧ (∀ k, S' k → (S k ∨ w.heap.size ≤ k) ∧ k < w'.heap.size) ∧ Off S w w') : Left X rb l w w' := by
  obtain ⟨S', h1, h2, h3⟩ := h
  exact ⟨⟨S', h1, fun k hk => ⟨(h2 k hk).1.elim (fun q => (hS k q).1) (fun q => hup k q), (h2 k hk).2⟩⟩, h3.mono (fun k hk => (hS k hk).1)⟩
theorem rx_new (w : World) (hup : Up X w) : Calls Try.prog 17 #[] w fun e w' => ∃ rb : Nat, e = .returned (.pointer (some ⟨rb, 0, none⟩)) ∧ RX X rb [] w' ∧ Below w.heap.size w w' := by
  refine (pa_new w).mono ?_
  rintro e w' ⟨rb, rfl, h, hb⟩
  exact ⟨rb, rfl, ⟨_, h, fun k hk => ⟨hup k hk.1, hk.2⟩⟩, hb⟩
theorem rx_len (h : RX X rb l w) : Calls Try.prog 14 #[.pointer (some ⟨rb, 0, none⟩)] w fun e w' => e = .returned (.int .i64 (l.length : Nat)) ∧ Below w.heap.size w w' := by
  obtain ⟨S, h1, -⟩ := h
  exact pa_len h1
theorem rx_at (h : RX X rb l w) (hl : l.length ≤ 60000) (i : Int) : Calls Try.prog 9 #[.pointer (some ⟨rb, 0, none⟩), .int .i64 i] w fun e w' => ∃ u, e = .returned (.tuple #[u, .int .i64 (atE l i)]) ∧ Own5 w w' u (atL l i) ∧ Below w.heap.size w w' := by
  obtain ⟨S, h1, -⟩ := h
  exact pa_at h1 hl i
theorem rx_over (h : RX X rb l w) (hl : l.length ≤ 60000) (i j : Int) : Calls Try.prog 10 #[.pointer (some ⟨rb, 0, none⟩), .int .i64 i, .int .i64 j] w fun e w' => ∃ v ss, e = .returned (.tuple #[v, .int .i64 (mrE l.length i j)]) ∧ Sown w.heap.size w.heap.size w' v ss ∧ ss.map Sv.s = ovL l i j ∧ Below w.heap.size w w' := by
  obtain ⟨S, h1, h2⟩ := h
  exact pa_over h1 (fun k hk => (h2 k hk).2) hl i j
theorem rx_delete (h : RX X rb l w) (hup : Up X w) (hl : l.length ≤ 60000) (i j : Int) : Calls Try.prog 12 #[.pointer (some ⟨rb, 0, none⟩), .int .i64 i, .int .i64 j] w fun e w' => e = .returned (.int .i64 (mrE l.length i j)) ∧ Left X rb (delL l i j) w w' := by
  obtain ⟨S, h1, h2⟩ := h
  refine (pa_delete h1 (fun k hk => (h2 k hk).2) (by omega) i j).mono ?_
  rintro e w' ⟨rfl, q⟩
  exact ⟨rfl, left_of hup h2 q⟩
theorem rx_insert (h : RX X rb l w) (hup : Up X w) (k : Int) (v : Value) (hv : ∀ W, Off X w W → Nrow W v ls) (hs : ∀ s ∈ ls, s.length ≤ 100000) (hl : l.length + ls.length ≤ 60000) : Calls Try.prog 11 #[.pointer (some ⟨rb, 0, none⟩), .int .i64 k, v] w fun e w' => e = .returned (.int .i64 (mrE l.length k k)) ∧ Left X rb (insL l k ls) w w' := by
  obtain ⟨S, h1, h2⟩ := h
  refine (pa_insert h1 (fun k hk => (h2 k hk).2) k v (fun W ho => hv W (ho.mono (fun k hk => (h2 k hk).1))) hs (by omega)).mono ?_
  rintro e w' ⟨rfl, q⟩
  exact ⟨rfl, left_of hup h2 q⟩
theorem rx_patch (h : RX X rb l w) (hup : Up X w) (hl : l.length ≤ 60000) (i j : Int) (xv : Value) (P : List Chg) (hx : ∀ W, Off X w W → Crow W xv P) (hX : P.length ≤ 100000) (hs : ∀ s ∈ l, s.length + P.length ≤ 100000) : Calls Try.prog 13 #[.pointer (some ⟨rb, 0, none⟩), .int .i64 i, .int .i64 j, xv] w fun e w' => e = .returned (.int .i64 (mrE l.length i j)) ∧ Left X rb (patL l i j P) w w' := by
  obtain ⟨S, h1, h2⟩ := h
  refine (pa_patch h1 (fun k hk => (h2 k hk).2) hl i j xv P (fun W ho => hx W (ho.mono (fun k hk => (h2 k hk).1))) hX hs).mono ?_
  rintro e w' ⟨rfl, q⟩
  exact ⟨rfl, left_of hup h2 q⟩
end
end Go.Proofs.Yteodfbkfpboehaa
