
import Derived.Test.YtoiomijchchlnaaF7
/- F8: what is true of a delta that may be; InPlace, the last cell -/
namespace Go.Proofs.Ytoiomijchchlnaa
open Go.RowKit
set_option linter.unusedVariables false

/-- An op of which no error is told. -/
structure Fine (ks : List Key) (p : Opn) : Prop where
  n3 : mayO ks p ≠ 3
  n4 : mayO ks p ≠ 4
theorem Fine.kind {ks : List Key} {p : Opn} (h : Fine ks p) : p.k = 1 ∨ p.k = 2 ∨ p.k = 3 := by
  have h3 := h.n3
  unfold mayO at h3
  by_cases q1 : p.k = 1
  · exact .inl q1
  by_cases q2 : p.k = 2
  · exact .inr (.inl q2)
  by_cases q3 : p.k = 3
  · exact .inr (.inr q3)
  rw [if_neg q1, if_neg q2, if_neg q3] at h3
  exact absurd rfl h3
theorem Fine.len {ks : List Key} {p : Opn} (h : Fine ks p) : 1 ≤ lenO p := by
  have h3 := h.n3
  have := h.kind
  unfold mayO mayR mayI mayD at h3
  apply Int.not_lt.1
  intro hl
  apply h3
  rcases this with q | q | q
  · rw [if_pos q, if_pos (.inl hl)]
  · rw [if_neg (by omega), if_pos q, if_pos (.inl hl)]
  · rw [if_neg (by omega), if_neg (by omega), if_pos q, if_pos (.inl hl)]
theorem Fine.num {ks : List Key} {p : Opn} (h : Fine ks p) (h2 : p.k ≠ 2) : lenO p = p.n := by
  have := h.len
  unfold lenO at this ⊢
  rw [if_neg h2] at this ⊢
  split <;> rename_i q
  · rfl
  · rw [if_neg q] at this; omega
theorem told_0 {ks : List Key} {xs : List Opn} : told ks xs = 0 ↔ ∀ p ∈ xs, Fine ks p := by
  unfold told
  constructor
  · intro h p hp
    by_cases q3 : xs.any (fun p => mayO ks p == 3) = true
    · rw [if_pos q3] at h; omega
    by_cases q4 : xs.any (fun p => mayO ks p == 4) = true
    · rw [if_neg q3, if_pos q4] at h; omega
    refine ⟨fun h3 => q3 (List.any_eq_true.2 ⟨p, hp, by simp [h3]⟩), fun h4 => q4 (List.any_eq_true.2 ⟨p, hp, by simp [h4]⟩)⟩
  · intro h
    rw [if_neg, if_neg]
    · intro q
      obtain ⟨p, hp, h4⟩ := List.any_eq_true.1 q
      exact (h p hp).n4 (by simpa using h4)
    · intro q
      obtain ⟨p, hp, h4⟩ := List.any_eq_true.1 q
      exact (h p hp).n3 (by simpa using h4)
theorem mayX_0 {ks : List Key} {xs : List Opn} : mayX ks xs = 0 ↔ tot 3 xs ≤ 536870912 ∧ tot 2 xs ≤ 536870912 ∧ ∀ p ∈ xs, Fine ks p := by
  unfold mayX
  rw [sumK_tot, sumK_tot]
  constructor
  · intro h
    by_cases q : 536870912 < min (tot 3 xs) 9223372036854775807 ∨ 536870912 < min (tot 2 xs) 9223372036854775807
    · rw [if_pos q] at h; omega
    · rw [if_neg q] at h
      exact ⟨by omega, by omega, told_0.1 h⟩
  · intro ⟨h1, h2, h3⟩
    rw [if_neg (by omega)]
    exact told_0.2 h3
theorem mayX_ways (ks : List Key) (xs : List Opn) : mayX ks xs = 0 ∨ mayX ks xs = 3 ∨ mayX ks xs = 4 := by
  unfold mayX told
  split
  · exact .inr (.inl rfl)
  split
  · exact .inr (.inl rfl)
  split
  · exact .inr (.inr rfl)
  · exact .inl rfl
theorem tk_cons (x : Opn) (r : List Opn) : tk (x :: r) = (if x.k = 2 then 0 else x.n) + tk r := by simp [tk]
theorem tk_fine {ks : List Key} : ∀ xs : List Opn, (∀ p ∈ xs, Fine ks p) → tk xs = tot 3 xs
  | [], _ => rfl
  | x :: r, h => by
    have hx := h x (by simp)
    rw [tk_cons, tot_cons, tk_fine r fun p hp => h p (by simp [hp])]
    have hk := hx.kind
    by_cases h2 : x.k = 2
    · rw [if_pos h2, if_neg (by simp [cnt, h2])]
    · rw [if_neg h2, if_pos (by simp only [cnt, Bool.or_eq_true, beq_iff_eq]; omega), hx.num h2]
/-- What is taken by the first so many. -/
theorem tk_within {ks : List Key} {xs : List Opn} (h : ∀ p ∈ xs, Fine ks p) (k : Nat) : 0 ≤ tk (xs.take k) ∧ tk (xs.take k) ≤ tot 3 xs := by
  have h1 := tk_fine (ks := ks) (xs.take k) fun p hp => h p (List.mem_of_mem_take hp)
  have h2 := tot_app 3 (xs.take k) (xs.drop k)
  rw [List.take_append_drop] at h2
  have := tot_nn 3 (xs.take k)
  have := tot_nn 3 (xs.drop k)
  omega

set_option maxRecDepth 100000 in
set_option maxHeartbeats 4000000 in
theorem inPlace_anyX (v u : Value) (ks : List Key) (ls : List Opn) (w : World) (hs : Sch w v ks) (hv : Orow w u ls) (hW : ∀ p ∈ ls, OpW p) :
    Calls Try.prog 13 #[v, u] w fun e w' => e = .returned (.bool (placeX ks ls)) ∧ Below w.heap.size w w' := by
  have hl : ls.length ≤ 9223372036854775807 := hv.len
  obtain ⟨a1, cap1, rfl⟩ := hv.shape
  by_cases h0 : 0 < ls.length
  rotate_left
  · obtain rfl : ls = [] := List.eq_nil_of_length_eq_zero (by omega)
    clear hv hW hs h0
    go_enter Try.func13, Try.ntmps13
    go_wp2
    refine wp_loop_rounds 1 ?_
    rw [rounds_succ]
    go_wp2
    go_ret
    exact ⟨rfl, Below.refl _ _⟩
  obtain ⟨b1, o1, rfl, -, -, -, hbl, hat⟩ := hv.ats h0
  have HAT := Lib.hid hat
  have HS := Lib.hid hs
  clear hv hat hs
  go_enter Try.func13, Try.ntmps13
  go_wp2
  go_loopw [9] (fun s9 wr => ∃ k : Nat, k ≤ ls.length ∧ s9 = .int .i64 k ∧ Hid ((ls.take k).all (placeB ks) = true ∧ Below w.heap.size w wr)) (fun s9 _ => ls.length - (intOf s9).toNat)
  case atStart => exact ⟨0, Nat.zero_le _, rfl, Lib.hid ⟨rfl, Below.refl _ _⟩⟩
  case round =>
    obtain ⟨k, hk, rfl, HR⟩ := hrel
    by_cases hlt : k < ls.length
    · have hoat := (HAT.out k hlt).below HR.out.2
      have hw := hW _ (List.getElem_mem hlt)
      have HLT := Lib.hid hlt
      have HY := Lib.hid (fun h => all_step (q := placeB ks) hlt HR.out.1 h)
      have HN := Lib.hid (fun h => all_bad (q := placeB ks) hlt h)
      have HBR := Lib.hid HR.out.2
      generalize ls[k] = p at *
      obtain ⟨rl, sl, pl, e1, e2, e3, ra, rc, sa, sc, pa, pc, c0, c1, c2, c3, c4, q1, q2, q3⟩ := hoat
      have hsw := HS.out.below HBR.out (Nat.le_refl _)
      have HX := Lib.hid (kbelow_one wr (.cells (opcs p.k p.n ra rl rc sa sl sc pa pl pc) 41))
      have hpl : placeO ks p = (if sl = 0 then true else if alone ks p.st false then nl p.rs == 0 else if alone ks p.st true then nl p.rs == rl else false) := by rw [← e1, ← e2]; rfl
      have HR1 := Lib.hid (fun W (hb : Below wr.heap.size wr W) => by have := inPlace_any v ks p.k p.n p.rs p.st ra rl rc sa sl sc pa pl pc W (hsw.below hb (Nat.le_refl _)) (q1.below hb) (q2.below hb (Nat.le_refl _)) hw.s e1 e2; rw [← hpl] at this; exact this)
      have HB := Lib.hid (below_add HBR.out HX.out HBR.out.size)
      have hpb : placeB ks p = !(p.k == 2 && !placeO ks p) := rfl
      rw [hpb] at HY HN
      generalize placeO ks p = b at *
      obtain ⟨pk, pn, prs, pst, ppt⟩ := p
      simp only at c0 c1 c2 c3 c4 HR1 HX HB HY HN
      clear q1 q2 q3 e1 e2 e3 hlt HR hw hsw hpl hpb
      by_cases h2 : pk = 2
      · subst h2
        cases b
        · have HE := Lib.hid (HN.out rfl)
          clear HY HN
          go_wp2_with (go_at_call 21; (with_reducible refine (HR1.out _ HX.out).mono ?_); rintro e w3 ⟨rfl, hb⟩; have HB3 := Lib.hid (below_add HB.out hb HB.out.size); clear hb)
          go_ret
          exact ⟨by rw [show placeX ks ls = false from HE.out]; rfl, HB3.out⟩
        · have HE := Lib.hid (HY.out rfl)
          clear HY HN
          go_wp2_with (go_at_call 21; (with_reducible refine (HR1.out _ HX.out).mono ?_); rintro e w3 ⟨rfl, hb⟩; have HB3 := Lib.hid (below_add HB.out hb HB.out.size); clear hb)
          go_roundw
          case rel => exact ⟨k + 1, HLT.out, by go_num, Lib.hid ⟨HE.out, HB3.out⟩⟩
          case measure => have := HLT.out; simp [intOf]; omega
      · have e2 : (pk == 2) = false := by simpa using h2
        have HE := Lib.hid (HY.out (by rw [e2]; rfl))
        clear HY HN h2 HR1
        go_wp2
        go_roundw
        case rel => exact ⟨k + 1, HLT.out, by go_num, Lib.hid ⟨HE.out, HB.out⟩⟩
        case measure => have := HLT.out; simp [intOf]; omega
    · obtain rfl : k = ls.length := by omega
      have HE := Lib.hid (show placeX ks ls = true from all_end HR.out.1)
      have HBR := Lib.hid HR.out.2
      go_wp2
      go_ret
      exact ⟨by rw [HE.out]; rfl, HBR.out⟩

/-- The last cell has stayed so far. -/
def KeptN (n : Int) (xs : List Opn) (k : Nat) : Prop := ∀ j (h : j < xs.length), j < k → ¬ (xs[j].k ≠ 1 ∧ n - tk (xs.take (j + 1)) = 0)
theorem kept_step {n : Int} {xs : List Opn} {k : Nat} (h : k < xs.length) (hp : KeptN n xs k) (hx : ¬ (xs[k].k ≠ 1 ∧ n - tk (xs.take (k + 1)) = 0)) : KeptN n xs (k + 1) := by
  intro j hj hjk
  by_cases e : j = k
  · subst e; exact hx
  · exact hp j hj (by omega)

set_option maxRecDepth 100000 in
set_option maxHeartbeats 4000000 in
theorem keeps_any (u : Value) (n : Int) (ls : List Opn) (w : World) (hv : Orow w u ls) (hn : ∀ k, 0 ≤ n - tk (ls.take k) ∧ n - tk (ls.take k) ≤ 9223372036854775807) :
    Calls Try.prog 16 #[u, .int .i64 n] w fun e w' => e = .returned (.bool (decide (keeps n ls))) ∧ Below w.heap.size w w' := by
  have hl : ls.length ≤ 9223372036854775807 := hv.len
  obtain ⟨a1, cap1, rfl⟩ := hv.shape
  by_cases h0 : 0 < ls.length
  rotate_left
  · obtain rfl : ls = [] := List.eq_nil_of_length_eq_zero (by omega)
    have HE := Lib.hid (show decide (keeps n []) = true from decide_eq_true (fun j h => by simp at h))
    clear hv h0
    go_enter Try.func16, Try.ntmps16
    go_wp2
    refine wp_loop_rounds 1 ?_
    rw [rounds_succ]
    go_wp2
    go_ret
    exact ⟨by rw [HE.out]; rfl, Below.refl _ _⟩
  obtain ⟨b1, o1, rfl, -, -, -, hbl, hat⟩ := hv.ats h0
  have HAT := Lib.hid hat
  have HNN := Lib.hid hn
  clear hv hat hn
  go_enter Try.func16, Try.ntmps16
  go_wp2
  go_loopw [1, 9] (fun s1 s9 wr => ∃ (k : Nat) (m : Int), k ≤ ls.length ∧ s1 = .int .i64 m ∧ s9 = .int .i64 k ∧ Hid (m = n - tk (ls.take k) ∧ KeptN n ls k ∧ Below w.heap.size w wr)) (fun _ s9 _ => ls.length - (intOf s9).toNat)
  case atStart => exact ⟨0, n, Nat.zero_le _, rfl, rfl, Lib.hid ⟨by simp [tk_nil], fun j h hj => by omega, Below.refl _ _⟩⟩
  case round =>
    obtain ⟨k, m, hk, rfl, rfl, HR⟩ := hrel
    by_cases hlt : k < ls.length
    · have hoat := (HAT.out k hlt).below HR.out.2.2
      have HLT := Lib.hid hlt
      have hY := kept_step hlt HR.out.2.1
      have hN : (ls[k].k ≠ 1 ∧ n - tk (ls.take (k + 1)) = 0) → decide (keeps n ls) = false := fun h => decide_eq_false fun q => q k hlt h
      have hts := tk_step hlt
      have hm := HR.out.1
      obtain ⟨hm0, hm1⟩ := HNN.out k
      obtain ⟨hn0, hn1⟩ := HNN.out (k + 1)
      rw [← hm] at hm0 hm1
      obtain ⟨m', hm'⟩ : ∃ x, n - tk (ls.take (k + 1)) = x := ⟨_, rfl⟩
      have hmm : m' = m - if ls[k].k = 2 then 0 else ls[k].n := by rw [← hm', hts, hm]; omega
      rw [hm'] at hY hN hn0 hn1
      have HBR := Lib.hid HR.out.2.2
      have HM' := Lib.hid hm'
      clear hm hts hm' HR
      generalize ls[k] = p at *
      obtain ⟨rl, sl, pl, e1, e2, e3, ra, rc, sa, sc, pa, pc, c0, c1, c2, c3, c4, q1, q2, q3⟩ := hoat
      have HX := Lib.hid (kbelow_one wr (.cells (opcs p.k p.n ra rl rc sa sl sc pa pl pc) 41))
      have HB := Lib.hid (below_add HBR.out HX.out HBR.out.size)
      obtain ⟨pk, pn, prs, pst, ppt⟩ := p
      simp only at c0 c1 c2 c3 c4 HX HB hY hN hmm
      clear q1 q2 q3 e1 e2 e3 hlt
      by_cases h2 : pk = 2
      · subst h2
        rw [if_pos rfl, Int.sub_zero] at hmm
        subst hmm
        by_cases hz : m' = 0
        · have HE := Lib.hid (hN ⟨by omega, hz⟩)
          subst hz
          clear hY hN
          go_wp2
          go_ret
          exact ⟨by rw [HE.out]; rfl, HB.out⟩
        · have HE := Lib.hid (hY (fun q => hz q.2))
          have ez : (m' == 0) = false := by simpa using hz
          clear hY hN hz
          go_wp2
          go_roundw
          case rel => exact ⟨k + 1, m', HLT.out, rfl, by go_num, Lib.hid ⟨HM'.out.symm, HE.out, HB.out⟩⟩
          case measure => have := HLT.out; simp [intOf]; omega
      · rw [if_neg h2] at hmm
        have e2 : (pk == 2) = false := by simpa using h2
        have e3 : (pk != 2) = true := by simpa using h2
        have hw1 : IntKind.i64.wrap (m - pn) = m' := by rw [IntKind.wrap_i64]; omega
        have HW := Lib.hid hmm
        clear h2 hmm
        by_cases h1 : pk = 1
        · subst h1
          have HE := Lib.hid (hY (fun q => q.1 rfl))
          clear hY hN
          go_wp2
          go_roundw
          case rel => exact ⟨k + 1, m', HLT.out, rfl, by go_num, Lib.hid ⟨HM'.out.symm, HE.out, HB.out⟩⟩
          case measure => have := HLT.out; simp [intOf]; omega
        · have e5 : (pk == 1) = false := by simpa using h1
          have e6 : (pk != 1) = true := by simpa using h1
          by_cases hz : m' = 0
          · have HE := Lib.hid (hN ⟨h1, hz⟩)
            subst hz
            clear hY hN h1
            go_wp2
            go_ret
            exact ⟨by rw [HE.out]; rfl, HB.out⟩
          · have HE := Lib.hid (hY (fun q => hz q.2))
            have ez : (m' == 0) = false := by simpa using hz
            clear hY hN hz h1
            go_wp2
            go_roundw
            case rel => exact ⟨k + 1, m', HLT.out, rfl, by go_num, Lib.hid ⟨HM'.out.symm, HE.out, HB.out⟩⟩
            case measure => have := HLT.out; simp [intOf]; omega
    · obtain rfl : k = ls.length := by omega
      have HE := Lib.hid (show decide (keeps n ls) = true from decide_eq_true (fun j h => HR.out.2.1 j h h))
      have HBR := Lib.hid HR.out.2.2
      go_wp2
      go_ret
      exact ⟨by rw [HE.out]; rfl, HBR.out⟩
end Go.Proofs.Ytoiomijchchlnaa
