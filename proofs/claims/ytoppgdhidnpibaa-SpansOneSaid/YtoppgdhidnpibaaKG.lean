
import Derived.Test.YtoppgdhidnpibaaKF
/- KG: spans put in the place of others -/
namespace Go.Proofs.Ytoppgdhidnpibaa
open Go.RowKit
set_option linter.unusedVariables false
set_option maxRecDepth 100000

/-- How long spans are together. -/
def smW (xs : List Rw) : Int := (xs.map Rw.n).sum
theorem smW_take {xs : List Rw} {k : Nat} (h : k < xs.length) : smW (xs.take (k + 1)) = smW (xs.take k) + xs[k].n := by
  unfold smW
  rw [List.take_succ_eq_append_getElem h, List.map_append, List.sum_append]; simp
theorem smW_pos : ∀ {xs : List Rw}, (∀ x ∈ xs, 0 ≤ x.n) → 0 ≤ smW xs
  | [], _ => Int.le_refl _
  | x :: r, h => by
    have h1 := h x List.mem_cons_self
    have h2 := smW_pos (fun y hy => h y (List.mem_cons_of_mem _ hy))
    show 0 ≤ x.n + smW r
    omega
theorem smW_le {xs : List Rw} (h : ∀ x ∈ xs, 0 ≤ x.n) (k : Nat) : smW (xs.take k) ≤ smW xs := by
  have e : smW xs = smW (xs.take k) + smW (xs.drop k) := by
    unfold smW
    rw [← List.sum_append, ← List.map_append, List.take_append_drop]
  have := smW_pos (xs := xs.drop k) (fun y hy => h y (List.mem_of_mem_drop hy))
  omega
theorem lnS_ck : ∀ {xs : List Rw}, (∀ x ∈ xs, 0 ≤ x.n) → ((lnS (xs.map Rw.ck) : Nat) : Int) = smW xs
  | [], _ => rfl
  | x :: r, h => by
    have h1 := h x List.mem_cons_self
    have h2 := lnS_ck (fun y hy => h y (List.mem_cons_of_mem _ hy))
    rw [List.map_cons, lnS_cons]
    show ((x.n.toNat + lnS (r.map Rw.ck) : Nat) : Int) = x.n + smW r
    omega
set_option maxHeartbeats 600000 in
theorem room_any (v : Value) (xs : List Rw) (w : World) (hv : Row RwC w v xs) (hp : ∀ x ∈ xs, 0 ≤ x.n) (r : Int) (h1 : 0 ≤ r) (h2 : r ≤ 10000000000) :
    Calls Try.prog 31 #[v, .int .i64 r] w fun e w' => e = .returned (.bool (decide (smW xs ≤ r))) ∧ Below w.heap.size w w' := by
  have hl := hv.len
  obtain ⟨a1, cap1, rfl⟩ := hv.shape
  have HSL := Lib.hid (fun k => smW_le hp k)
  have HSP := Lib.hid (fun k => smW_pos (xs := xs.take k) (fun x hx => hp x (List.mem_of_mem_take hx)))
  by_cases h0 : 0 < xs.length
  · obtain ⟨b1, o1, rfl, -, -, -, hbl, -, -⟩ := Row.opened hv h0
    have HV := Lib.hid hv
    have HPP := Lib.hid hp
    clear hv hp
    go_enter Try.func31, Try.ntmps31
    go_wp2
    go_loopw [1, 9] (fun s1 s9 wr => ∃ k : Nat, k ≤ xs.length ∧ s1 = .int .i64 (r - smW (xs.take k)) ∧ s9 = .int .i64 k ∧ Hid (smW (xs.take k) ≤ r) ∧ Below w.heap.size w wr) (fun _ s9 _ => xs.length - (intOf s9).toNat)
    case atStart => exact ⟨0, Nat.zero_le _, by simp [smW], rfl, Lib.hid h1, Below.refl _ _⟩
    case round =>
      obtain ⟨k, hk, rfl, rfl, HR, hb⟩ := hrel
      rename_i wr
      by_cases hlt : k < xs.length
      · obtain ⟨c0, c1⟩ := rw_at (HV.out.below hb (Nat.le_refl _)) hlt
        have hst := smW_take hlt
        have hps := HSP.out k
        have hle := HSL.out (k + 1)
        have hxp := HPP.out _ (List.getElem_mem hlt)
        have hr := HR.out
        have hsz := hb.size
        have HB := Lib.hid hb
        obtain ⟨sk, hsk⟩ : ∃ sk, smW (xs.take k) = sk := ⟨_, rfl⟩
        obtain ⟨sk1, hsk1⟩ : ∃ sk, smW (xs.take (k + 1)) = sk := ⟨_, rfl⟩
        rw [hsk] at hst hps hr ⊢
        rw [hsk1] at hst hle
        have HSK := Lib.hid hsk1
        have HST := Lib.hid hst
        have HLE := Lib.hid hle
        generalize xs[k].n = n at *
        generalize xs[k].d = d at *
        by_cases hd : n ≤ r - sk
        · have d1 : decide (r - sk < n) = false := decide_eq_false (by omega)
          have u1 : 0 ≤ r - sk - n := by omega
          have u2 : r - sk - n ≤ 10000000000 := by omega
          have HQ := Lib.hid (show sk1 ≤ r ∧ r - sk1 = r - sk - n by omega)
          have bb := ((Below.refl w.heap.size w).trans hb).alloc hsz (.cells #[.int .i64 n, .int .i64 d] 44)
          have BB := Lib.hid bb
          clear hb bb hst hle hxp hr hd hsk hsk1
          go_wp2
          go_roundw
          case rel => exact ⟨k + 1, hlt, by rw [HSK.out, HQ.out.2] <;> rfl, by simp, Lib.hid (by rw [HSK.out]; exact HQ.out.1), BB.out⟩
          case measure => simp only [intOf]; omega
        · have d1 : decide (r - sk < n) = true := decide_eq_true (by omega)
          have HQ := Lib.hid (show decide (smW xs ≤ r) = false from decide_eq_false (by omega))
          have bb := ((Below.refl w.heap.size w).trans hb).alloc hsz (.cells #[.int .i64 n, .int .i64 d] 44)
          have BB := Lib.hid bb
          clear hb bb hst hle hxp hr hd hsk hsk1
          go_wp2
          go_ret
          exact ⟨by rw [HQ.out]; rfl, BB.out⟩
      · obtain rfl : k = xs.length := by omega
        have HE := Lib.hid (show decide (smW xs ≤ r) = true from decide_eq_true (by have := HR.out; rwa [List.take_of_length_le (Nat.le_refl _)] at this))
        go_wp2
        go_ret
        exact ⟨by rw [HE.out]; rfl, hb⟩
  · obtain rfl : xs = [] := List.length_eq_zero_iff.1 (by omega)
    have HE : Hid (decide (smW [] ≤ r) = true) := Lib.hid (decide_eq_true h1)
    clear hv hp
    go_enter Try.func31, Try.ntmps31
    go_wp2
    go_loopw [9] (fun s9 wr => s9 = .int .i64 0 ∧ wr = w) (fun _ _ => 0)
    case atStart => exact ⟨rfl, rfl⟩
    case round =>
      obtain ⟨rfl, rfl⟩ := hrel
      go_wp2
      go_ret
      exact ⟨by rw [HE.out]; rfl, Below.refl _ _⟩
/-- What Splice answers, and leaves. -/
def spE (l : List Int) (i j : Int) (xs : List Rw) : Int := if anyBad xs = true then 3 else if rcB l.length i j = false then 5 else if smW xs ≤ 536870912 - (l.length : Nat) + j - i then 0 else 8
def spL (l : List Int) (i j : Int) (xs : List Rw) : List Int := if spE l i j xs = 0 then l.take i.toNat ++ (flat (xs.map Rw.ck) ++ l.drop j.toNat) else l
section
variable {S : Nat → Prop} {tb rb : Nat} {l : List Int} {xs : List Rw} {w w' W : World}
theorem wt_rl (l : List Int) : Wc.wt (rl l) = wq l := by
  unfold Way.wt wq cntR
  rw [show Wc.ln (rl l) = l.length from lnS_rl l]
theorem sp_remade {S' : Nat → Prop} {Q : Nat} (hC : Cb rb 29 #[.pointer (some ⟨tb, 0, none⟩)] w) (hs : ∀ k, S' k → S k ∧ k ≠ rb) (hrb : S rb) (hup : Up S w) (R' : TC) (he : R'.el Wc = rl l) (h : Sq Q (UpS S' w) tb R'.id [R'] w') (ho : Off (UpS S' w) w w') : Rp S rb l w' ∧ Off S w w' := by
  have ho' : Off S' w w' := ho.unup
  have hc := h.cut
  refine ⟨.inr ⟨tb, _, (ho'.block rb hC.lt (fun e => (hs rb e).2 rfl)).trans hC, ⟨R', ⟨hc.1, by rw [tot_cons, tot_nil, he, wt_rl]; exact Nat.le_refl _⟩, he, fun k hk => hk.2⟩, fun k hk => ?_, hrb⟩, ho'.mono fun k hk => (hs k hk).1⟩
  rcases hk.1 with hk | hk
  · exact hs k hk
  · have := hC.lt
    exact ⟨hup k hk, by omega⟩
theorem sp_splice3 (h : Rp S rb l w) (i j : Int) (v : Value) (hv : Row RwC w v xs) (hb : anyBad xs = true) :
    Calls Try.prog 12 #[.pointer (some ⟨rb, 0, none⟩), .int .i64 i, .int .i64 j, v] w fun e w' => e = .returned (.int .i64 3) ∧ Below w.heap.size w w' := by
  have HC := Lib.hid (contains_any v xs w hv)
  rw [hb] at HC
  clear h hv hb
  go_enter Try.func12, Try.ntmps12
  go_wp2_with (go_at_call 29; refine HC.out.mono ?_; rintro e w1 ⟨rfl, bb⟩; have B1 := Lib.hid bb; clear bb)
  go_ret
  exact ⟨rfl, B1.out⟩
theorem sp_splice5 (h : Rp S rb l w) (i j : Int) (v : Value) (hv : Row RwC w v xs) (hb : anyBad xs = false) (hr : rcB l.length i j = false) :
    Calls Try.prog 12 #[.pointer (some ⟨rb, 0, none⟩), .int .i64 i, .int .i64 j, v] w fun e w' => e = .returned (.int .i64 5) ∧ Below w.heap.size w w' := by
  have HC := Lib.hid (contains_any v xs w hv)
  rw [hb] at HC
  have HRE := Lib.hid (fun (w' : World) (hb : Below w.heap.size w w') => sp_reach (h.below hb) i j)
  rw [hr] at HRE
  clear h hv hb hr
  go_enter Try.func12, Try.ntmps12
  go_wp2_with (first
    | (go_at_call 29; refine HC.out.mono ?_; rintro e w1 ⟨rfl, bb⟩; have B1 := Lib.hid bb; clear bb)
    | (go_at_call 24; refine (HRE.out _ B1.out).mono ?_; rintro e w2 ⟨rfl, bb⟩; have B2 := Lib.hid (below_add B1.out bb B1.out.size); clear bb))
  go_ret
  exact ⟨rfl, B2.out⟩
set_option maxHeartbeats 1000000 in
theorem sp_splice8 (h : Rp S rb l w) (hl : l.length ≤ 536870912) (i j : Nat) (hij : i ≤ j) (hj : j ≤ l.length) (v : Value) (hv : Row RwC w v xs) (hb : anyBad xs = false) (hm : ¬ smW xs ≤ 536870912 - (l.length : Nat) + (j : Nat) - (i : Nat)) :
    Calls Try.prog 12 #[.pointer (some ⟨rb, 0, none⟩), .int .i64 (i : Nat), .int .i64 (j : Nat), v] w fun e w' => e = .returned (.int .i64 8) ∧ Below w.heap.size w w' := by
  have HC := Lib.hid (contains_any v xs w hv)
  have hpos := anyBad_no hb
  rw [hb] at HC
  have HRE := Lib.hid (fun (w' : World) (hb : Below w.heap.size w w') => sp_reach (h.below hb) (i : Nat) (j : Nat))
  rw [(rcB_iff _ _ _).2 ⟨by omega, by omega, by omega⟩] at HRE
  have HL := Lib.hid (fun (w' : World) (hb : Below w.heap.size w w') => sp_len (h.below hb))
  obtain ⟨n1, hn1⟩ : ∃ n, l.length = n := ⟨_, rfl⟩
  rw [hn1] at HL hl hj hm
  have HRM := Lib.hid (fun (w' : World) (hb : Below w.heap.size w w') => room_any v xs w' (hv.below hb (Nat.le_refl _)) (fun x hx => (hpos x hx).1) (536870912 - (n1 : Nat) + (j : Nat) - (i : Nat)) (by omega) (by omega))
  rw [decide_eq_false hm] at HRM
  have u1 : 0 ≤ 536870912 - ((n1 : Nat) : Int) := by omega
  have u2 : 536870912 - ((n1 : Nat) : Int) ≤ 536870912 := by omega
  have u3 : 0 ≤ 536870912 - ((n1 : Nat) : Int) + ((j : Nat) : Int) := by omega
  have u4 : 536870912 - ((n1 : Nat) : Int) + ((j : Nat) : Int) ≤ 10000000000 := by omega
  have u5 : 0 ≤ 536870912 - ((n1 : Nat) : Int) + ((j : Nat) : Int) - ((i : Nat) : Int) := by omega
  have u6 : 536870912 - ((n1 : Nat) : Int) + ((j : Nat) : Int) - ((i : Nat) : Int) ≤ 10000000000 := by omega
  clear h hv hb hm hpos hij hj hl hn1
  go_enter Try.func12, Try.ntmps12
  go_wp2_with (first
    | (go_at_call 29; refine HC.out.mono ?_; rintro e w1 ⟨rfl, bb⟩; have B1 := Lib.hid bb; clear bb)
    | (go_at_call 24; refine (HRE.out _ B1.out).mono ?_; rintro e w2 ⟨rfl, bb⟩; have B2 := Lib.hid (below_add B1.out bb B1.out.size); clear bb)
    | (go_at_call 15; refine (HL.out _ B2.out).mono ?_; rintro e w3 ⟨rfl, bb⟩; have B3 := Lib.hid (below_add B2.out bb B2.out.size); clear bb)
    | (go_at_call 31; refine (HRM.out _ B3.out).mono ?_; rintro e w4 ⟨rfl, bb⟩; have B4 := Lib.hid (below_add B3.out bb B3.out.size); clear bb))
  go_ret
  exact ⟨rfl, B4.out⟩
set_option maxHeartbeats 2000000 in
theorem sp_splice0 (h : Rp S rb l w) (hlt : ∀ k, S k → k < w.heap.size) (hl : l.length ≤ 536870912) (hq : cntR l + xs.length ≤ 20000) (i j : Nat) (hij : i ≤ j) (hj : j ≤ l.length) (v : Value) (hv : ∀ W, Off S w W → Row RwC W v xs) (hb : anyBad xs = false) (hm : smW xs ≤ 536870912 - (l.length : Nat) + (j : Nat) - (i : Nat)) :
    Calls Try.prog 12 #[.pointer (some ⟨rb, 0, none⟩), .int .i64 (i : Nat), .int .i64 (j : Nat), v] w fun e w' => e = .returned (.int .i64 0) ∧ Rp (fun k => UpS S w k ∧ k < w'.heap.size) rb (l.take i ++ (flat (xs.map Rw.ck) ++ l.drop j)) w' ∧ Off S w w' := by
  have hv0 := hv w (Off.refl _ _)
  have HC := Lib.hid (contains_any v xs w hv0)
  have hpos := anyBad_no hb
  rw [hb] at HC
  have HRE := Lib.hid (fun (w' : World) (hb : Below w.heap.size w w') => sp_reach (h.below hb) (i : Nat) (j : Nat))
  rw [(rcB_iff _ _ _).2 ⟨by omega, by omega, by omega⟩] at HRE
  have HL := Lib.hid (fun (w' : World) (hb : Below w.heap.size w w') => sp_len (h.below hb))
  have HVV := Lib.hid (fun W (ho : Off S w W) => row_ck (hv W ho) (fun x hx => (hpos x hx).1))
  have hsm := lnS_ck (fun x hx => (hpos x hx).1)
  have HQ := Lib.hid (show wq l + Wc.wt (xs.map Rw.ck) ≤ 1300000000 by
    unfold wq Way.wt
    rw [List.length_map]
    have : Wc.ln (xs.map Rw.ck) = lnS (xs.map Rw.ck) := rfl
    omega)
  have HIJ := Lib.hid (And.intro hij hj)
  have H0 := Lib.hid h
  have HLT := Lib.hid hlt
  obtain ⟨n1, hn1⟩ : ∃ n, l.length = n := ⟨_, rfl⟩
  rw [hn1] at HL hl hj hm
  have HRM := Lib.hid (fun (w' : World) (hb : Below w.heap.size w w') => room_any v xs w' (hv0.below hb (Nat.le_refl _)) (fun x hx => (hpos x hx).1) (536870912 - (n1 : Nat) + (j : Nat) - (i : Nat)) (by omega) (by omega))
  rw [decide_eq_true hm] at HRM
  have u1 : 0 ≤ 536870912 - ((n1 : Nat) : Int) := by omega
  have u2 : 536870912 - ((n1 : Nat) : Int) ≤ 536870912 := by omega
  have u3 : 0 ≤ 536870912 - ((n1 : Nat) : Int) + ((j : Nat) : Int) := by omega
  have u4 : 536870912 - ((n1 : Nat) : Int) + ((j : Nat) : Int) ≤ 10000000000 := by omega
  have u5 : 0 ≤ 536870912 - ((n1 : Nat) : Int) + ((j : Nat) : Int) - ((i : Nat) : Int) := by omega
  have u6 : 536870912 - ((n1 : Nat) : Int) + ((j : Nat) : Int) - ((i : Nat) : Int) ≤ 10000000000 := by omega
  clear h hlt hv hv0 hb hm hpos hij hj hl hn1 hsm hq
  go_enter Try.func12, Try.ntmps12
  go_wp2_with (first
    | (go_at_call 29; refine HC.out.mono ?_; rintro e w1 ⟨rfl, bb⟩; have B1 := Lib.hid bb; clear bb)
    | (go_at_call 24; refine (HRE.out _ B1.out).mono ?_; rintro e w2 ⟨rfl, bb⟩; have B2 := Lib.hid (below_add B1.out bb B1.out.size); clear bb)
    | (go_at_call 15; refine (HL.out _ B2.out).mono ?_; rintro e w3 ⟨rfl, bb⟩; have B3 := Lib.hid (below_add B2.out bb B2.out.size); clear bb)
    | (go_at_call 31; refine (HRM.out _ B3.out).mono ?_; rintro e w4 ⟨rfl, bb⟩; have B4 := Lib.hid (below_add B3.out bb B3.out.size); have H4 := Lib.hid (H0.out.below B4.out); clear bb)
    | (go_at_call 32; refine (sp_write H4.out).mono ?_; rintro e w5 ⟨tb, S', rfl, cc, ⟨R, q1, q2, q3⟩, hs, oo⟩; have C5 := Lib.hid cc; have T5 := Lib.hid q1; have E5 := Lib.hid q2; have HS5 := Lib.hid hs; have HW5 := Lib.hid q3; have O5 := Lib.hid oo; clear cc q1 q2 q3 hs oo)
    | (go_at_call 33; refine (splice_any (S := UpS S' _) R i j HIJ.out.1 (by rw [E5.out, show Wc.ln (rl l) = l.length from lnS_rl l]; exact HIJ.out.2) (by rw [E5.out]; exact rl_pr l) v (xs.map Rw.ck) (T5.out.mono (fun k hk => .inl hk)) (ups_up _ _) (fun W hW => HVV.out W ((Off.cut (S := S) (Off.below_l B4.out ((O5.out.mono (S' := UpS S w) (fun k hk => .inl hk)).seq (hW.mono (S' := UpS S w) (fun k hk => by
        have a4 := B4.out.size
        have a5 := O5.out.size
        rcases hk with hk | hk
        · exact (HS5.out k hk).1.elim .inl (fun h => .inr (by omega))
        · exact .inr (by omega)))))))) HQ.out).mono ?_; rintro e w6 ⟨rfl, R', q1, q2, q3, oo⟩; have E6 := Lib.hid (And.intro q1 q2); have T6 := Lib.hid q3; have O6 := Lib.hid oo; clear q1 q2 q3 oo))
  go_ret
  have hz4 := B4.out.size
  have hz5 := O5.out.size
  have hs : ∀ k, _ → UpS S w k ∧ k ≠ rb := fun k hk => ⟨(HS5.out k hk).1.elim .inl (fun h => .inr (by omega)), (HS5.out k hk).2⟩
  have he : R'.el Wc = rl (l.take i ++ (flat (xs.map Rw.ck) ++ l.drop j)) := by
    refine pr_ext E6.out.2 (rl_pr _) ?_
    rw [rl_flat, E6.out.1, E5.out, rl_flat]
  have hr := sp_remade (S := UpS S w) C5.out hs (.inl H0.out.mem.1) (fun k hk => .inr (by omega)) R' he T6.out O6.out
  exact ⟨rfl, hr.1.cut, (((Off.below_l B4.out O5.out).mono (fun k hk => .inl hk)).seq hr.2).unup⟩
theorem sp_splice (h : Rp S rb l w) (hlt : ∀ k, S k → k < w.heap.size) (hl : l.length ≤ 536870912) (hq : cntR l + xs.length ≤ 20000) (i j : Int) (v : Value) (hv : ∀ W, Off S w W → Row RwC W v xs) :
    Calls Try.prog 12 #[.pointer (some ⟨rb, 0, none⟩), .int .i64 i, .int .i64 j, v] w fun e w' => e = .returned (.int .i64 (spE l i j xs)) ∧ ∃ S', Rp S' rb (spL l i j xs) w' ∧ (∀ k, S' k → (S k ∨ w.heap.size ≤ k) ∧ k < w'.heap.size) ∧ Off S w w' := by
  have same : ∀ {er : Int}, er ≠ 0 → spE l i j xs = er → (Calls Try.prog 12 #[.pointer (some ⟨rb, 0, none⟩), .int .i64 i, .int .i64 j, v] w fun e w' => e = .returned (.int .i64 er) ∧ Below w.heap.size w w') →
      Calls Try.prog 12 #[.pointer (some ⟨rb, 0, none⟩), .int .i64 i, .int .i64 j, v] w fun e w' => e = .returned (.int .i64 (spE l i j xs)) ∧ ∃ S', Rp S' rb (spL l i j xs) w' ∧ (∀ k, S' k → (S k ∨ w.heap.size ≤ k) ∧ k < w'.heap.size) ∧ Off S w w' := by
    intro er h0 he hc
    refine hc.mono ?_
    rintro e w' ⟨rfl, hb⟩
    refine ⟨by rw [he], S, ?_, fun k hk => ⟨.inl hk, Nat.lt_of_lt_of_le (hlt k hk) hb.size⟩, Off.of_below hb⟩
    unfold spL
    rw [he, if_neg h0]
    exact h.below hb
  cases hb : anyBad xs with
  | true => exact same (er := 3) (by decide) (by unfold spE; rw [hb]; rfl) (sp_splice3 h i j v (hv w (Off.refl _ _)) hb)
  | false =>
    cases hr : rcB l.length i j with
    | false => exact same (er := 5) (by decide) (by unfold spE; rw [hb, hr]; rfl) (sp_splice5 h i j v (hv w (Off.refl _ _)) hb hr)
    | true =>
      obtain ⟨a1, a2, a3⟩ := (rcB_iff _ _ _).1 hr
      obtain ⟨i', rfl⟩ : ∃ k : Nat, i = k := ⟨i.toNat, by omega⟩
      obtain ⟨j', rfl⟩ : ∃ k : Nat, j = k := ⟨j.toNat, by omega⟩
      by_cases hm : smW xs ≤ 536870912 - (l.length : Nat) + (j' : Nat) - (i' : Nat)
      · have he : spE l (i' : Nat) (j' : Nat) xs = 0 := by unfold spE; rw [hb, hr, if_neg (by simp), if_neg (by simp), if_pos hm]
        refine (sp_splice0 h hlt hl hq i' j' (by omega) (by omega) v hv hb hm).mono ?_
        rintro e w' ⟨rfl, q1, q2⟩
        refine ⟨by rw [he], fun k => UpS S w k ∧ k < w'.heap.size, ?_, fun k hk => ⟨hk.1, hk.2⟩, q2⟩
        unfold spL
        rw [if_pos he]
        exact q1
      · exact same (er := 8) (by decide) (by unfold spE; rw [hb, hr, if_neg (by simp), if_neg (by simp), if_neg hm]) (sp_splice8 h hl i' j' (by omega) (by omega) v (hv w (Off.refl _ _)) hb hm)
end
end Go.Proofs.Ytoppgdhidnpibaa
