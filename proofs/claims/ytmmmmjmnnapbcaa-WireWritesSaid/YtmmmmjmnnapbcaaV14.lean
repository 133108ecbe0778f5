import Derived.Test.YtmmmmjmnnapbcaaV13
namespace Go.Proofs.Ytmmmmjmnnapbcaa
open Go.RowKit
set_option linter.unusedVariables false

theorem owns_opened {w : World} {B : Nat} {e : TypeId} {v : Value} {n : Nat} {xs : List Value} (h : w.ownsRow B e 1 v n xs) (hn : 0 < n) : ∃ g cap, v = .slice (some ⟨g, 0, none⟩) n cap ∧ B ≤ g ∧ n ≤ cap ∧ cap ≤ maxLen := by
  rcases h.2 with ⟨_, h0⟩ | ⟨g, cap, cur, rfl, hB, hg, hc, hm, _⟩
  · omega
  · exact ⟨g, cap, rfl, hB, hc, hm⟩
/-- A cell of an owned row of numbers is written. -/
theorem owns_put {k : IntKind} {w : World} {B : Nat} {e : TypeId} {g n cap : Nat} {ys : List Int} (h : w.ownsRow B e 1 (.slice (some ⟨g, 0, none⟩) n cap) n (ys.map (Value.int k))) (j : Nat) (z : Int) :
    (w.setCell ⟨g, j, none⟩ (.int k z)).ownsRow B e 1 (.slice (some ⟨g, 0, none⟩) n cap) n ((ys.set j z).map (Value.int k)) := by
  have := (h.stored j (.int k z)).1
  rwa [List.map_set]
theorem owns_cell {k : IntKind} {w : World} {B : Nat} {e : TypeId} {g n cap : Nat} {ys : List Int} (h : w.ownsRow B e 1 (.slice (some ⟨g, 0, none⟩) n cap) n (ys.map (Value.int k))) (j : Nat) (hj : j < n) :
    w.cell? ⟨g, j, none⟩ = some (.int k (ys.getD j 0)) ∧ w.frozen? ⟨g, j, none⟩ = false := by
  have hl : n = ys.length := by have := h.1; simp at this; omega
  refine ⟨?_, h.frozenAt j⟩
  rw [h.cellAt j (by omega), List.getElem?_map]
  simp [List.getD, show j < ys.length by omega]

def OwnTold (os : List Int) (N : Nat) (E : Int) (w : World) (e : Ending) (w' : World) : Prop :=
  ∃ v, e = .returned (.tuple #[v, .int .i64 N, .int .i64 E]) ∧ w'.ownsRow w.heap.size 5 1 v os.length (os.map (Value.int .u8)) ∧ Below w.heap.size w w'

set_option maxHeartbeats 4000000 in
set_option maxRecDepth 100000 in
theorem reads_walk (v : Value) (bs : List Int) (p m : Int) (w : World) (hv : Ints .u8 w v bs) (hbb : ∀ b ∈ bs, 0 ≤ b ∧ b < 256) (hm63 : m ≤ 9223372036854775807) :
    Calls Try.prog 4 #[v, .int .i64 p, .int .i64 m] w fun e w' => e = .returned (.bool true) ∧ Below w.heap.size w w' := by
  have HV := Lib.hid hv
  have l1 := hv.len
  obtain ⟨a, cap, rfl⟩ := hv.shape
  clear hv
  by_cases hx : 2000 < bs.length
  · clear HV
    go_enter Try.func4, Try.ntmps4
    go_wp2_with (go_at_call 9; refine (known_any _).mono ?_; rintro e w' ⟨rfl, hb⟩)
    go_ret
    exact ⟨rfl, hb⟩
  obtain ⟨i0, hi, hz0, hz1, hz2⟩ := info_parts info8
  have o1 := owns_empty w 5
  have b0 : Below w.heap.size w (w.alloc (.cells #[] 5)) := (Below.refl _ _).alloc (Nat.le_refl _) _
  have iv1 := HV.out.below b0
  have HBB := Lib.hid hbb
  have HU : Hid (∀ v w', Ints .u8 w' v bs → Calls Try.prog 16 #[v, .int .i64 p] w' (UintIs bs p w')) := fun v w' hv => uint_any v bs p w' hv hbb (by omega)
  have HR : Hid (∀ v w', Ints .u8 w' v bs → Calls Try.prog 17 #[v, .int .i64 p] w' (Told (uNum bs p) (uNxt bs p) (uErr bs p) w')) := fun v w' hv => ruint_any v bs p w' hv hbb (by omega)
  have HI : Hid (∀ v w', Ints .u8 w' v bs → Calls Try.prog 18 #[v, .int .i64 p] w' (IntIs bs p w')) := fun v w' hv => int_any v bs p w' hv hbb (by omega)
  have HF : Fits (uNum bs p) := by
    rcases u_cases (p := p) hbb with h | h
    · exact h.2.1
    · rw [h.2.1]; unfold Fits; omega
  have HB : Hid (∀ v w', Ints .u8 w' v bs → Calls Try.prog 20 #[v, .int .i64 p, .int .i64 m] w' (BytesIs bs p m w')) := fun v w' hv => bytes_any v bs p m w' hv hbb (by omega) hm63
  have HRB : Hid (∀ v w', Ints .u8 w' v bs → Calls Try.prog 21 #[v, .int .i64 p, .int .i64 m] w' (BytesIs bs p m w')) := fun v w' hv => rbytes_any v bs p m w' hv hbb (by omega) hm63
  unfold UintIs at HU
  unfold IntIs at HI
  unfold BytesIs at HB HRB
  generalize uNum bs p = N at *
  generalize uNxt bs p = X at *
  generalize uErr bs p = E at *
  generalize bErr bs p m = BE at *
  generalize bNxt bs p m = BX at *
  generalize bOut bs p m = BO at *
  have BK := Lib.hid (fun w => back_any N w HF)
  clear hbb HF
  go_enter Try.func4, Try.ntmps4
  go_wp2_with (at_builtin; refine wpList_append_ints rfl (.tmp 28) (.tmp 29) 22 rfl w.heap.size 5 i0 (.int .u8 0) 1 Try.underlying22 hi hz0 hz1 hz2 rfl _ 0 [] rfl o1 _ .u8 bs rfl iv1 (by unfold maxLen; omega) (by omega) (by simp) ?_)
  intro v1 w1 hown1 hg1
  try simp only [Nat.zero_add, List.nil_append] at hown1
  have b1 : Below w.heap.size w w1 := b0.grown hg1 (by simp) (fun k hk => by simp [Value.ownBlock] at hk; omega)
  have j1 := (Ints.of_owns hown1).1
  have k1 := HV.out.below b1
  clear o1 b0 iv1 hown1 hg1
  go_wp2_with (go_at_call 16; refine (HU.out _ _ j1).mono ?_; rintro e w' ⟨rfl, rfl⟩)
  go_wp2_with (go_at_call 17; refine (HR.out _ _ k1).mono ?_)
  rintro e w2 ⟨rfl, b12⟩
  have b2 := b1.trans (b12.mono b1.size)
  have j2 := j1.below b12
  have k2 := HV.out.below b2
  clear b1 b12 j1 k1 HU HR
  go_wp2_with (go_at_call 18; refine (HI.out _ _ j2).mono ?_; rintro e w' ⟨rfl, rfl⟩)
  go_wp2_with (go_at_call 19; refine (BK.out _).mono ?_; rintro e w' ⟨rfl, rfl⟩)
  have C3 : Calls Try.prog 20 #[v1, .int .i64 p, .int .i64 m] w2 (OwnTold BO BX BE w2) := HB.out _ _ j2
  clear HI BK HB
  go_wp2_with (go_at_call 20; refine C3.mono ?_)
  rintro e w3 ⟨v3, rfl, o3, b23⟩
  have b3 := b2.trans (b23.mono b2.size)
  have k3 := HV.out.below b3
  have C4 : Calls Try.prog 21 #[.slice a bs.length cap, .int .i64 p, .int .i64 m] w3 (OwnTold BO BX BE w3) := HRB.out _ _ k3
  clear HRB k2 k3
  go_wp2_with (go_at_call 21; refine C4.mono ?_)
  rintro e w4 ⟨v4, rfl, o4, b34⟩
  have b24 := b23.trans (b34.mono b23.size)
  have o3' := owns_below o3 b34
  have hc3 := conv_str (P := Try.prog) 22 9 5 Try.underlying22 Try.underlying5 Try.underlying9 _ _ _ (Ints.of_owns o3').1
  have hc4 := conv_str (P := Try.prog) 22 9 5 Try.underlying22 Try.underlying5 Try.underlying9 _ _ _ (Ints.of_owns o4).1
  have hc1 := conv_str (P := Try.prog) 22 9 5 Try.underlying22 Try.underlying5 Try.underlying9 _ _ _ (j2.below b24)
  have hc0 := conv_str (P := Try.prog) 22 9 5 Try.underlying22 Try.underlying5 Try.underlying9 _ _ _ ((HV.out.below b2).below b24)
  have HC : Hid (∀ w', Below w2.heap.size w2 w' → (convert 22 9 v1).run Try.prog w' = .ok (.string (strOfNums bs)) w' ∧ (convert 22 9 (.slice a bs.length cap)).run Try.prog w' = .ok (.string (strOfNums bs)) w') :=
    fun w' hb => ⟨conv_str (P := Try.prog) 22 9 5 Try.underlying22 Try.underlying5 Try.underlying9 _ _ _ (j2.below hb), conv_str (P := Try.prog) 22 9 5 Try.underlying22 Try.underlying5 Try.underlying9 _ _ _ ((HV.out.below b2).below hb)⟩
  clear o3 o4 b34 b23 b3 C3 C4 j2
  generalize strOfNums BO = so at *
  generalize strOfNums bs = sb at *
  have HL : ∀ xs : List Int, xs = BO → Hid (xs.length = BO.length) := fun xs h => by rw [h]; rfl
  have HL1 := HL BO rfl
  clear HL
  obtain ⟨L, hL⟩ : ∃ L, BO.length = L := ⟨_, rfl⟩
  rw [hL] at o3' HL1
  have HL2 := Lib.hid hL
  clear hL
  by_cases h0 : L = 0
  · obtain rfl := h0
    obtain ⟨a3, cap3, rfl⟩ : ∃ a3 cap3, v3 = .slice a3 0 cap3 := by
      rcases o3'.2 with ⟨h, _⟩ | ⟨g, cap, cur, h, _⟩
      · exact ⟨_, _, h⟩
      · exact ⟨_, _, h⟩
    clear o3'
    go_wp2
    refine wp_loop_rounds 1 ?_
    rw [rounds_succ]
    go_wp2_with (go_at_call 9; refine (known_any _).mono ?_; rintro e w' ⟨rfl, hb⟩)
    go_ret
    have b4 := b2.trans (b24.mono b2.size)
    exact ⟨rfl, b4.trans (hb.mono b4.size)⟩
  · obtain ⟨g, cap3, rfl, hBg, hLc, hcm⟩ := owns_opened o3' (by omega)
    unfold maxLen at hcm
    go_wp2
    go_loopw [121] (fun i wr => ∃ (k : Nat) (ys : List Int), i = .int .i64 k ∧ k ≤ L ∧ wr.ownsRow w2.heap.size 5 1 (.slice (some ⟨g, 0, none⟩) L cap3) L (ys.map (Value.int .u8)) ∧ Below w2.heap.size w2 wr) (fun i _ => L - (intOf i).toNat)
    case atStart => exact ⟨0, BO, rfl, by omega, o3', b24⟩
    case round =>
      obtain ⟨k, ys, rfl, hk, hown, hb⟩ := hrel
      by_cases hlt : k < L
      · obtain ⟨hcell, hfz⟩ := owns_cell hown k hlt
        have HP := Lib.hid (owns_put hown k)
        have HS : Hid (∀ u, Below w2.heap.size w2 (wr.setCell ⟨g, k, none⟩ u)) := fun u => hb.setCell (p := ⟨g, k, none⟩) hBg u
        clear hown hb
        generalize ys.getD k 0 = y at hcell
        go_wp2
        go_roundw
        case rel => exact ⟨k + 1, _, by go_num, by omega, HP.out _, HS.out _⟩
        case measure => simp [intOf]; omega
      · obtain ⟨e1, e2⟩ := HC.out wr hb
        have b4 := b2.trans (hb.mono b2.size)
        clear hown hb b24 o3' hc1 hc0 HC
        generalize strOfNums bs = sb at *
        go_wp2_with (go_at_call 9; refine (known_any _).mono ?_; rintro e w' ⟨rfl, hb⟩)
        go_ret
        exact ⟨rfl, b4.trans (hb.mono b4.size)⟩
end Go.Proofs.Ytmmmmjmnnapbcaa
