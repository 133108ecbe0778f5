
import Derived.Test.YteodfbkfpboehaaED
/- EE: records in memory; what it is read by, and written by; how long it is; a new one -/
namespace Go.Proofs.Yteodfbkfpboehaa
open Go.RowKit
set_option linter.unusedVariables false
set_option maxRecDepth 100000

/-- A tree of these records, in blocks of S, all of which lie. -/
def Tq (S : Nat → Prop) (tb : Nat) (l : List (List Att)) (w : World) : Prop := ∃ (D : Sv → Prop) (R : TC), Sq D (wq l) S tb R.id [R] w ∧ (flat (R.el Wc) = l ∧ Pr (R.el Wc)) ∧ ∀ k, S k → k < w.heap.size
/-- Records at block rb, these, in blocks of S: a zero one, or one that was made. -/
def Rp (S : Nat → Prop) (rb : Nat) (l : List (List Att)) (w : World) : Prop :=
  (l = [] ∧ Cb rb 32 #[.pointer none] w ∧ S rb) ∨ ∃ (tb : Nat) (S' : Nat → Prop), Cb rb 32 #[.pointer (some ⟨tb, 0, none⟩)] w ∧ Tq S' tb l w ∧ (∀ k, S' k → S k ∧ k ≠ rb) ∧ S rb
section
variable {S : Nat → Prop} {tb rb : Nat} {l : List (List Att)} {w w' W : World}
theorem Tq.below (h : Tq S tb l w) (hb : Below w.heap.size w w') : Tq S tb l w' := by
  obtain ⟨D, R, h1, h2, h3⟩ := h
  exact ⟨D, R, h1.below hb, h2, fun k hk => Nat.lt_of_lt_of_le (h3 k hk) hb.size⟩
theorem Tq.off {X : Nat → Prop} (h : Tq S tb l w) (ho : Off X w w') (hd : ∀ k, S k → ¬ X k) : Tq S tb l w' := by
  obtain ⟨D, R, h1, h2, h3⟩ := h
  exact ⟨D, R, h1.off ho hd, h2, fun k hk => Nat.lt_of_lt_of_le (h3 k hk) ho.size⟩
theorem Rp.mem (h : Rp S rb l w) : S rb ∧ rb < w.heap.size := by
  rcases h with ⟨-, h, hs⟩ | ⟨tb, S', h, -, -, hs⟩
  · exact ⟨hs, h.lt⟩
  · exact ⟨hs, h.lt⟩
theorem Rp.below (h : Rp S rb l w) (hb : Below w.heap.size w w') : Rp S rb l w' := by
  rcases h with ⟨h0, h, hs⟩ | ⟨tb, S', h, ht, hx, hs⟩
  · exact .inl ⟨h0, h.below hb, hs⟩
  · exact .inr ⟨tb, S', h.below hb, ht.below hb, hx, hs⟩
theorem Rp.off {X : Nat → Prop} (h : Rp S rb l w) (ho : Off X w w') (hd : ∀ k, S k → ¬ X k) : Rp S rb l w' := by
  rcases h with ⟨h0, h, hs⟩ | ⟨tb, S', h, ht, hx, hs⟩
  · exact .inl ⟨h0, h.off ho (hd _ hs), hs⟩
  · exact .inr ⟨tb, S', h.off ho (hd _ hs), ht.off ho (fun k hk => hd k (hx k hk).1), hx, hs⟩
theorem Rp.mono (h : Rp S rb l w) {S2 : Nat → Prop} (hS : ∀ k, S k → S2 k) : Rp S2 rb l w := by
  rcases h with ⟨h0, h, hs⟩ | ⟨tb, S', h, ht, hx, hs⟩
  · exact .inl ⟨h0, h, hS _ hs⟩
  · exact .inr ⟨tb, S', h, ht, fun k hk => ⟨hS _ (hx k hk).1, (hx k hk).2⟩, hS _ hs⟩
theorem Rp.cut (h : Rp S rb l w) : Rp (fun k => S k ∧ k < w.heap.size) rb l w := by
  rcases h with ⟨h0, h, hs⟩ | ⟨tb, S', h, ht, hx, hs⟩
  · exact .inl ⟨h0, h, hs, h.lt⟩
  · refine .inr ⟨tb, S', h, ht, fun k hk => ⟨⟨(hx k hk).1, ?_⟩, (hx k hk).2⟩, hs, h.lt⟩
    obtain ⟨D, R, -, -, h3⟩ := ht
    exact h3 k hk
theorem Tq.of_blank {tb : Nat} (h : Sq (fun _ => False) 0 (fun k => w.heap.size ≤ k) tb (Tr.nil : TC).id [.nil] w') : Tq (fun k => w.heap.size ≤ k ∧ k < w'.heap.size) tb [] w' :=
  ⟨_, .nil, h.cut, ⟨rfl, trivial⟩, fun k hk => hk.2⟩
theorem pa_new (w : World) : Calls Try.prog 17 #[] w fun e w' => ∃ rb : Nat, e = .returned (.pointer (some ⟨rb, 0, none⟩)) ∧ Rp (fun k => w.heap.size ≤ k ∧ k < w'.heap.size) rb [] w' ∧ Below w.heap.size w w' := by
  have HB := Lib.hid (blank_any w)
  go_enter Try.func17, Try.ntmps17
  go_wp2_with (go_at_call 36; refine HB.out.mono ?_; rintro e w1 ⟨tb, rfl, ss, bb⟩; have SS := Lib.hid (Tq.of_blank ss); have BB := Lib.hid bb; clear ss bb)
  go_ret
  refine ⟨w1.heap.size, rfl, .inr ⟨tb, _, cb_new w1 _ _, SS.out.below (below_alloc1 w1 _), fun k hk => ⟨⟨hk.1, ?_⟩, ?_⟩, BB.out.size, ?_⟩, BB.out.alloc BB.out.size _⟩
  · have := hk.2; rw [World.size_alloc]; omega
  · have := hk.2; omega
  · rw [World.size_alloc]; omega
/-- What records are read by. -/
theorem pa_read (h : Rp S rb l w) : Calls Try.prog 24 #[.pointer (some ⟨rb, 0, none⟩)] w fun e w' => ∃ (tb : Nat) (S' : Nat → Prop), e = .returned (.pointer (some ⟨tb, 0, none⟩)) ∧ Tq S' tb l w' ∧ Below w.heap.size w w' := by
  rcases h with ⟨rfl, h, hs⟩ | ⟨tb, S', h, ht, hx, hs⟩
  · have c0 : w.cell? ⟨rb, 0, none⟩ = some (.pointer none) := h.cell 0
    have HB := Lib.hid (blank_any w)
    clear h hs
    go_enter Try.func24, Try.ntmps24
    go_wp2_with (go_at_call 36; refine HB.out.mono ?_; rintro e w1 ⟨tb, rfl, ss, bb⟩; have SS := Lib.hid (Tq.of_blank ss); have BB := Lib.hid bb; clear ss bb)
    go_ret
    exact ⟨tb, _, rfl, SS.out, BB.out⟩
  · have c0 : w.cell? ⟨rb, 0, none⟩ = some (.pointer (some ⟨tb, 0, none⟩)) := h.cell 0
    have HT := Lib.hid ht
    clear h hs hx ht
    go_enter Try.func24, Try.ntmps24
    go_wp2
    go_ret
    exact ⟨tb, S', rfl, HT.out, Below.refl _ _⟩
/-- What records are written by. -/
theorem pa_write (h : Rp S rb l w) : Calls Try.prog 29 #[.pointer (some ⟨rb, 0, none⟩)] w fun e w' => ∃ (tb : Nat) (S' : Nat → Prop), e = .returned (.pointer (some ⟨tb, 0, none⟩)) ∧ Cb rb 32 #[.pointer (some ⟨tb, 0, none⟩)] w' ∧ Tq S' tb l w' ∧ (∀ k, S' k → UpS S w k ∧ k ≠ rb) ∧ Off S w w' := by
  rcases h with ⟨rfl, h, hs⟩ | ⟨tb, S', h, ht, hx, hs⟩
  · have c0 : w.cell? ⟨rb, 0, none⟩ = some (.pointer none) := h.cell 0
    have HB := Lib.hid (blank_any w)
    have HS := Lib.hid hs
    have HC := Lib.hid h
    clear h hs
    go_enter Try.func29, Try.ntmps29
    go_wp2_with (go_at_call 36; refine HB.out.mono ?_; rintro e w1 ⟨tb, rfl, ss, bb⟩; have SS := Lib.hid (Tq.of_blank ss); have BB := Lib.hid bb; have c1 : w1.cell? ⟨rb, 0, none⟩ = some (.pointer none) := (HC.out.below bb).cell 0; have f1 := (HC.out.below bb).frozen 0; have C1 := Lib.hid (HC.out.below bb); clear ss bb)
    go_ret
    have hg := grown_set (w := w1) (g := rb) (o := 0) (.pointer (some ⟨tb, 0, none⟩))
    have ho : Off (fun k => k = rb) w1 (w1.setCell ⟨rb, 0, none⟩ (.pointer (some ⟨tb, 0, none⟩))) := Off.of_grown hg (fun g hg => by cases hg; rfl)
    refine ⟨tb, _, rfl, ?_, SS.out.off ho (fun k hk e => ?_), fun k hk => ⟨.inr hk.1, fun e => ?_⟩, Off.below_l BB.out (ho.mono (fun k hk => hk ▸ HS.out))⟩
    · show (w1.setCell _ _).heap[rb]? = _
      rw [heap_set _ C1.out]; rfl
    · have := hk.1; have := HC.out.lt; omega
    · have := hk.1; have := HC.out.lt; omega
  · have c0 : w.cell? ⟨rb, 0, none⟩ = some (.pointer (some ⟨tb, 0, none⟩)) := h.cell 0
    have HT := Lib.hid ht
    have HC := Lib.hid h
    have HX := Lib.hid hx
    clear h hs hx ht
    go_enter Try.func29, Try.ntmps29
    go_wp2
    go_ret
    exact ⟨tb, S', rfl, HC.out, HT.out, fun k hk => ⟨.inl (HX.out k hk).1, (HX.out k hk).2⟩, Off.refl _ _⟩
theorem tq_size (h : Tq S tb l w) : Calls Try.prog 33 #[.pointer (some ⟨tb, 0, none⟩)] w fun e w' => e = .returned (.agg #[.int .i64 (l.length : Nat), .int .i64 0]) ∧ Below w.heap.size w w' := by
  obtain ⟨D, R, h1, h2, h3⟩ := h
  have := size_any R h1
  rw [show Wc.ln (R.el Wc) = l.length by rw [← h2.1, flat_len]; rfl] at this
  exact this
theorem pa_len (h : Rp S rb l w) : Calls Try.prog 14 #[.pointer (some ⟨rb, 0, none⟩)] w fun e w' => e = .returned (.int .i64 (l.length : Nat)) ∧ Below w.heap.size w w' := by
  have HR := Lib.hid (pa_read h)
  have hfl := field_len
  clear h
  go_enter Try.func14, Try.ntmps14
  go_wp2_with (first
    | (go_at_call 24; refine HR.out.mono ?_; rintro e w1 ⟨tb, S', rfl, ht, bb⟩; have HT := Lib.hid ht; have B1 := Lib.hid bb; clear ht bb)
    | (go_at_call 33; refine (tq_size HT.out).mono ?_; rintro e w2 ⟨rfl, bb⟩; have B2 := Lib.hid (below_add B1.out bb B1.out.size); clear bb))
  go_ret
  exact ⟨rfl, B2.out⟩
/-- Records that are not there are read as none. -/
theorem pa_read0 (w : World) : Calls Try.prog 24 #[.pointer none] w fun e w' => ∃ (tb : Nat) (S' : Nat → Prop), e = .returned (.pointer (some ⟨tb, 0, none⟩)) ∧ Tq S' tb [] w' ∧ Below w.heap.size w w' := by
  have HB := Lib.hid (blank_any w)
  go_enter Try.func24, Try.ntmps24
  go_wp2_with (go_at_call 36; refine HB.out.mono ?_; rintro e w1 ⟨tb, rfl, ss, bb⟩; have SS := Lib.hid (Tq.of_blank ss); have BB := Lib.hid bb; clear ss bb)
  go_ret
  exact ⟨tb, _, rfl, SS.out, BB.out⟩
end
end Go.Proofs.Yteodfbkfpboehaa
