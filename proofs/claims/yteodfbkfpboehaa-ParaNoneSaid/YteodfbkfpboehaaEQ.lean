
import Derived.Test.YteodfbkfpboehaaEO
/- EQ: records that are not there; zero ones: ParaNone -/
namespace Go.Proofs.Yteodfbkfpboehaa
open Go.RowKit Go.Shelf
set_option linter.unusedVariables false
set_option maxRecDepth 100000

theorem nil_reach (i j : Int) (w : World) : Calls Try.prog 27 #[.pointer none, .int .i64 i, .int .i64 j] w fun e w' => e = .returned (.int .i64 1) ∧ w' = w := by
  go_enter Try.func27, Try.ntmps27
  go_wp2
  go_ret
  exact ⟨rfl, rfl⟩
theorem nil_at (i : Int) (w : World) : Calls Try.prog 9 #[.pointer none, .int .i64 i] w fun e w' => e = .returned (.tuple #[.slice none 0 0, .int .i64 1]) ∧ Below w.heap.size w w' := by
  go_enter Try.func9, Try.ntmps9
  go_wp2
  exact bodyPost_ret (by simp [results, Try.results9, go_sem]) rfl ⟨rfl, Below.refl _ _⟩
theorem nil_over (i j : Int) (w : World) : Calls Try.prog 10 #[.pointer none, .int .i64 i, .int .i64 j] w fun e w' => e = .returned (.tuple #[.slice none 0 0, .int .i64 1]) ∧ Below w.heap.size w w' := by
  go_enter Try.func10, Try.ntmps10
  go_wp2_with (go_at_call 27; refine (nil_reach _ _ _).mono ?_; rintro e wx ⟨rfl, hw⟩; have hw := hw.symm; subst hw)
  exact bodyPost_ret (by simp [results, Try.results10, go_sem]) rfl ⟨rfl, Below.refl _ _⟩
theorem nil_insert (i : Int) (v : Value) (w : World) : Calls Try.prog 11 #[.pointer none, .int .i64 i, v] w fun e w' => e = .returned (.int .i64 1) ∧ Below w.heap.size w w' := by
  go_enter Try.func11, Try.ntmps11
  go_wp2_with (go_at_call 27; refine (nil_reach _ _ _).mono ?_; rintro e wx ⟨rfl, hw⟩; have hw := hw.symm; subst hw)
  go_ret
  exact ⟨rfl, Below.refl _ _⟩
theorem nil_delete (i j : Int) (w : World) : Calls Try.prog 12 #[.pointer none, .int .i64 i, .int .i64 j] w fun e w' => e = .returned (.int .i64 1) ∧ Below w.heap.size w w' := by
  go_enter Try.func12, Try.ntmps12
  go_wp2_with (go_at_call 27; refine (nil_reach _ _ _).mono ?_; rintro e wx ⟨rfl, hw⟩; have hw := hw.symm; subst hw)
  go_ret
  exact ⟨rfl, Below.refl _ _⟩
theorem nil_patch (i j : Int) (xa : Option Addr) (xn xc : Nat) (w : World) : Calls Try.prog 13 #[.pointer none, .int .i64 i, .int .i64 j, .slice xa xn xc] w fun e w' => e = .returned (.int .i64 1) ∧ Below w.heap.size w w' := by
  have B1 := Lib.hid (below_alloc1 w (.cells #[.slice xa xn xc] 23))
  go_enter Try.func13, Try.ntmps13
  go_wp2_with (go_at_call 27; refine (nil_reach _ _ _).mono ?_; rintro e wx ⟨rfl, hw⟩; have hw := hw.symm; subst hw)
  go_ret
  exact ⟨rfl, B1.out⟩
theorem nil_len (w : World) : Calls Try.prog 14 #[.pointer none] w fun e w' => e = .returned (.int .i64 0) ∧ Below w.heap.size w w' := by
  have HR := Lib.hid (pa_read0 w)
  have hfl := field_len
  go_enter Try.func14, Try.ntmps14
  go_wp2_with (first
    | (go_at_call 24; refine HR.out.mono ?_; rintro e w1 ⟨tb, S', rfl, ht, bb⟩; have HT := Lib.hid ht; have B1 := Lib.hid bb; clear ht bb)
    | (go_at_call 33; refine (tq_size HT.out).mono ?_; rintro e w2 ⟨rfl, bb⟩; have B2 := Lib.hid (below_add B1.out bb B1.out.size); clear bb))
  go_ret
  exact ⟨rfl, B2.out⟩
theorem nil_read (w : World) : Calls Try.prog 24 #[.pointer none] w fun e w' => ∃ tb : Nat, e = .returned (.pointer (some ⟨tb, 0, none⟩)) ∧ Sq (fun _ => False) 0 (fun k => w.heap.size ≤ k) tb (Tr.nil : TC).id [.nil] w' ∧ Below w.heap.size w w' := by
  have HB := Lib.hid (blank_any w)
  go_enter Try.func24, Try.ntmps24
  go_wp2_with (go_at_call 36; refine HB.out.mono ?_; rintro e w1 ⟨tb, rfl, ss, bb⟩; have SS := Lib.hid ss; have BB := Lib.hid bb; clear ss bb)
  go_ret
  exact ⟨tb, rfl, SS.out, BB.out⟩
theorem blank_height {D : Sv → Prop} {Q : Nat} {S : Nat → Prop} {tb : Nat} {w : World} (h : Sq D Q S tb (Tr.nil : TC).id [.nil] w) : Calls Try.prog 34 #[.pointer (some ⟨tb, 0, none⟩)] w fun e w' => e = .returned (.int .i64 0) ∧ Below w.heap.size w w' := by
  have hc := h.root5.1
  have hfs := field_ht
  have HAT := Lib.hid (at_st (.nil : TC) List.mem_cons_self h)
  clear h
  go_enter Try.func34, Try.ntmps34
  go_wp2_with (go_at_call 51; refine HAT.out.mono ?_; rintro e w1 ⟨rfl, b1⟩; have B1 := Lib.hid b1; clear b1)
  go_ret
  exact ⟨rfl, B1.out⟩
theorem nil_height (w : World) : Calls Try.prog 15 #[.pointer none] w fun e w' => e = .returned (.int .i64 0) ∧ Below w.heap.size w w' := by
  have HR := Lib.hid (nil_read w)
  go_enter Try.func15, Try.ntmps15
  go_wp2_with (first
    | (go_at_call 24; refine HR.out.mono ?_; rintro e w1 ⟨tb, rfl, ht, bb⟩; have HT := Lib.hid ht; have B1 := Lib.hid bb; clear ht bb)
    | (go_at_call 34; refine (blank_height HT.out).mono ?_; rintro e w2 ⟨rfl, bb⟩; have B2 := Lib.hid (below_add B1.out bb B1.out.size); clear bb))
  go_ret
  exact ⟨rfl, B2.out⟩
theorem nil_copy (w : World) : Calls Try.prog 16 #[.pointer none] w fun e w' => e = .returned (.pointer none) ∧ Below w.heap.size w w' := by
  go_enter Try.func16, Try.ntmps16
  go_wp2
  go_ret
  exact ⟨rfl, Below.refl _ _⟩
/-- One call, as a row. -/
theorem orow_cb {b : Nat} {t : TypeId} {o : OpV} {p : OpL} {w : World} (h : Cb b t (opC.c o).toArray w) (hp : OpR w o p) : Orow w (.slice (some ⟨b, 0, none⟩) 1 1) [p] :=
  ⟨[o], fun _ => p, .inr ⟨b, 0, 1, rfl, by simp, by simp, by unfold maxLen; omega, fun j u hu => by rw [h.cell, ← hu]; simp [fl_one, opC]⟩, rfl, fun q hq => by
    obtain rfl := List.mem_singleton.1 hq; exact hp⟩
theorem insL_nil (L : List (List Att)) : insL [] 0 L = L := by
  have h : mrE ([] : List (List Att)).length 0 0 = 0 := rfl
  unfold insL
  rw [if_pos h]
  simp
/-- A row put into records that were not made. -/
theorem rx_insert0 {B rb : Nat} {L : List (List Att)} {v : Value} {w : World} (h : RX (fun k => B ≤ k) rb [] w) (hB : B ≤ w.heap.size) (hv : ∀ W, Below B w W → Nrow W v L) (hs : ∀ s ∈ L, s.length ≤ 100000) (hl : L.length ≤ 60000) :
    Calls Try.prog 11 #[.pointer (some ⟨rb, 0, none⟩), .int .i64 0, v] w fun e w' => e = .returned (.int .i64 0) ∧ RX (fun k => B ≤ k) rb L w' ∧ Below B w w' := by
  refine (rx_insert h (fun k hk => by omega) 0 v (fun W ho => hv W (ho.below (fun k q => q) hB)) hs (by simpa using hl)).mono ?_
  rintro e w' ⟨rfl, q1, q2⟩
  rw [insL_nil] at q1
  exact ⟨rfl, q1, q2.below (fun k q => q) hB⟩
set_option maxHeartbeats 2000000 in
theorem none_no (o : OpV) (p : OpL) (w : World) (hp : OpR w o p) (hs : ¬ smallL [p]) :
    Calls Try.prog 3 #[opA o] w fun e w' => e = .returned (.bool true) ∧ Below w.heap.size w w' := by
  have b1 := below_alloc1 w (.cells (opC.c o).toArray 25)
  have b2 := b1.alloc b1.size (.cells (opC.c o).toArray 25)
  have h2 := orow_cb (cb_new (w.alloc (.cells (opC.c o).toArray 25)) 25 (opC.c o).toArray) (hp.below b2)
  have HS := Lib.hid (small_any _ _ _ h2)
  rw [decide_eq_false hs, World.size_alloc] at HS
  have B2 := Lib.hid b2
  clear b1 b2 h2 hp hs
  obtain ⟨k, i, m, la, ll, lc, xa, xl, xc⟩ := o
  change Calls _ _ #[.agg #[.int .i64 k, .int .i64 i, .int .i64 m, .slice la ll lc, .slice xa xl xc]] _ _
  change Hid (Calls _ _ _ ((w.alloc (.cells #[.int .i64 k, .int .i64 i, .int .i64 m, .slice la ll lc, .slice xa xl xc] _)).alloc (.cells #[.int .i64 k, .int .i64 i, .int .i64 m, .slice la ll lc, .slice xa xl xc] _)) _) at HS
  change Hid (Below _ _ ((w.alloc (.cells #[.int .i64 k, .int .i64 i, .int .i64 m, .slice la ll lc, .slice xa xl xc] _)).alloc (.cells #[.int .i64 k, .int .i64 i, .int .i64 m, .slice la ll lc, .slice xa xl xc] _))) at B2
  go_enter Try.func3, Try.ntmps3
  go_wp2_with (first
    | (go_at_call 7; refine HS.out.mono ?_; rintro e w3 ⟨rfl, bb⟩; have B3 := Lib.hid (below_add B2.out bb B2.out.size); clear bb)
    | (go_at_call 8; refine (known13_any _).mono ?_; rintro e w4 ⟨rfl, bb⟩; have B4 := Lib.hid (below_add B3.out bb B3.out.size); clear bb))
  go_ret
  exact ⟨rfl, B4.out⟩
set_option maxHeartbeats 4000000 in
theorem none_yes (o : OpV) (p : OpL) (w : World) (hp : OpR w o p) (hs : smallL [p]) :
    Calls Try.prog 3 #[opA o] w fun e w' => e = .returned (.bool true) ∧ Below w.heap.size w w' := by
  have b1 := below_alloc1 w (.cells (opC.c o).toArray 25)
  have b2 := b1.alloc b1.size (.cells (opC.c o).toArray 25)
  have h2 := orow_cb (cb_new (w.alloc (.cells (opC.c o).toArray 25)) 25 (opC.c o).toArray) (hp.below b2)
  have HS := Lib.hid (small_any _ _ _ h2)
  rw [decide_eq_true hs, World.size_alloc] at HS
  have HC := Lib.hid ((cb_new w 25 (opC.c o).toArray).alloc (.cells (opC.c o).toArray 25))
  have B2 := Lib.hid b2
  have hso := hs.2 p (List.mem_singleton.2 rfl)
  have HL60 := Lib.hid hso.1
  have HS70 := Lib.hid (fun s hm => (hso.2.2.2 s hm).1)
  have HLN := Lib.hid hp.ll
  have HNR := Lib.hid (fun W (hb : Below w.heap.size w W) => (hp.below hb).L)
  clear b1 b2 h2 hp hs hso
  obtain ⟨k, i, m, la, ll, lc, xa, xl, xc⟩ := o
  obtain ⟨pk, pi, pm, L, px⟩ := p
  have hll : ll = L.length := HLN.out.1
  have HLL := Lib.hid hll
  change Calls _ _ #[.agg #[.int .i64 k, .int .i64 i, .int .i64 m, .slice la ll lc, .slice xa xl xc]] _ _
  change Hid (Calls _ _ _ ((w.alloc (.cells #[.int .i64 k, .int .i64 i, .int .i64 m, .slice la ll lc, .slice xa xl xc] _)).alloc (.cells #[.int .i64 k, .int .i64 i, .int .i64 m, .slice la ll lc, .slice xa xl xc] _)) _) at HS
  change Hid (Below _ _ ((w.alloc (.cells #[.int .i64 k, .int .i64 i, .int .i64 m, .slice la ll lc, .slice xa xl xc] _)).alloc (.cells #[.int .i64 k, .int .i64 i, .int .i64 m, .slice la ll lc, .slice xa xl xc] _))) at B2
  change Hid (Cb _ _ #[.int .i64 k, .int .i64 i, .int .i64 m, .slice la ll lc, .slice xa xl xc] ((w.alloc (.cells #[.int .i64 k, .int .i64 i, .int .i64 m, .slice la ll lc, .slice xa xl xc] _)).alloc (.cells #[.int .i64 k, .int .i64 i, .int .i64 m, .slice la ll lc, .slice xa xl xc] _))) at HC
  clear hll
  go_enter Try.func3, Try.ntmps3
  go_upto_region 5 with (go_at_call 7; refine HS.out.mono ?_; rintro e w3 ⟨rfl, bb⟩; have B3 := Lib.hid (below_add B2.out bb B2.out.size); have C3 := Lib.hid (HC.out.below bb); clear bb HC HS B2)
  have HW := Lib.hid (And.intro (C3.out.alloc (.cells #[.pointer none] 32)) (And.intro (cb_new w3 32 #[.pointer none]) (And.intro (B3.out.alloc B3.out.size (.cells #[.pointer none] 32)) (And.intro C3.out.lt (show w3.heap.size < (w3.alloc (.cells #[.pointer none] 32)).heap.size by rw [World.size_alloc]; omega)))))
  obtain ⟨bz, hbz⟩ : ∃ b, w3.heap.size = b := ⟨_, rfl⟩
  rw [hbz] at HW ⊢
  obtain ⟨bo, hbo⟩ : ∃ b, w.heap.size = b := ⟨_, rfl⟩
  rw [hbo] at HW HNR ⊢
  refine with_worldT (fun W => Cb bo 25 #[.int .i64 k, .int .i64 i, .int .i64 m, .slice la ll lc, .slice xa xl xc] W ∧ Cb bz 32 #[.pointer none] W ∧ Below bo w W ∧ bo < bz ∧ bz < W.heap.size) HW.out fun W4 hW4 => ?_
  have HB0 := Lib.hid hW4.2.2.1
  have HZ := Lib.hid (fun W (hb : Below W4.heap.size W4 W) => (show RX (fun k => bz ≤ k) bz [] W from ⟨fun k => k = bz, .inl ⟨rfl, hW4.2.1.below hb, rfl⟩, fun k hk => by subst hk; exact ⟨Nat.le_refl _, Nat.lt_of_lt_of_le hW4.2.2.2.2 hb.size⟩⟩))
  have HCC := Lib.hid (fun W (hb : Below bz W4 W) => (show W.cell? ⟨bo, 1, none⟩ = some (.int .i64 i) ∧ W.cell? ⟨bo, 2, none⟩ = some (.int .i64 m) ∧ W.cell? ⟨bo, 3, none⟩ = some (.slice la ll lc) ∧ W.cell? ⟨bo, 4, none⟩ = some (.slice xa xl xc) ∧ bz ≤ W.heap.size from by
    have hc : Cb bo 25 #[.int .i64 k, .int .i64 i, .int .i64 m, .slice la ll lc, .slice xa xl xc] W := (hb.block _ hW4.2.2.2.1).trans hW4.1
    exact ⟨hc.cell 1, hc.cell 2, hc.cell 3, hc.cell 4, Nat.le_trans (Nat.le_of_lt hW4.2.2.2.2) hb.size⟩))
  have HN4 := Lib.hid (fun W (hb : Below bz W4 W) => HNR.out W (hW4.2.2.1.trans (hb.mono (Nat.le_of_lt hW4.2.2.2.1))))
  have HLT := Lib.hid (Nat.le_of_lt hW4.2.2.2.1)
  have hzz := Nat.le_of_lt hW4.2.2.2.2
  have B4 := Lib.hid (Below.refl W4.heap.size W4)
  obtain ⟨c1, c2, c3, c4, -⟩ := HCC.out W4 (Below.refl _ _)
  have HZZ := Lib.hid hzz
  have HBO := Lib.hid hbo
  clear HW hW4 hbz hbo hzz C3 B3 HNR
  go_upto_region 7 with (first
    | (go_at_call 9; (with_reducible refine (nil_at _ _).mono ?_); rintro e w5 ⟨rfl, bb⟩; have B5 := Lib.hid (below_add B4.out bb B4.out.size); clear bb c1 c2 c3 c4 B4; obtain ⟨c1, c2, c3, c4, -⟩ := HCC.out _ (B5.out.mono HZZ.out))
    | (go_at_call 10; (with_reducible refine (nil_over _ _ _).mono ?_); rintro e w6 ⟨rfl, bb⟩; have B6 := Lib.hid (below_add B5.out bb B5.out.size); clear bb c1 c2 c3 c4 B5; obtain ⟨c1, c2, c3, c4, -⟩ := HCC.out _ (B6.out.mono HZZ.out)))
  refine h_start (S := fun W => W.cell? ⟨bo, 1, none⟩ = some (.int .i64 i) ∧ W.cell? ⟨bo, 2, none⟩ = some (.int .i64 m) ∧ W.cell? ⟨bo, 3, none⟩ = some (.slice la ll lc) ∧ W.cell? ⟨bo, 4, none⟩ = some (.slice xa xl xc) ∧ bz ≤ W.heap.size) (by kernel_rfl) ?_
  have B6 := Lib.hid (below_add B6.out (Below.refl _ _).drew B6.out.size)
  have K := Lib.hid (HCC.out _ (B6.out.mono HZZ.out))
  clear c1 c2 c3 c4
  refine h_val (i := 0) (v := .int .i64 1) rfl (by kernel_rfl) (by kernel_rfl) (by kernel_rfl) (fun _ _ _ h => h) (by rfl) (fun wz hS => ?_) K.out ?_
  · obtain ⟨c1, c2, c3, c4, -⟩ := hS
    go_simp
  go_frame
  refine h_val (i := 1) (v := .bool true) rfl (by kernel_rfl) (by kernel_rfl) (by kernel_rfl) (fun _ _ _ h => h) (by rfl) (fun wz hS => ?_) K.out ?_
  · obtain ⟨c1, c2, c3, c4, -⟩ := hS
    go_simp
  go_frame
  refine h_val (i := 2) (v := .bool true) rfl (by kernel_rfl) (by kernel_rfl) (by kernel_rfl) (fun _ _ _ h => h) (by rfl) (fun wz hS => ?_) K.out ?_
  · obtain ⟨c1, c2, c3, c4, -⟩ := hS
    go_simp
  go_frame
  refine h_val (i := 3) (v := .int .i64 1) rfl (by kernel_rfl) (by kernel_rfl) (by kernel_rfl) (fun _ _ _ h => h) (by rfl) (fun wz hS => ?_) K.out ?_
  · obtain ⟨c1, c2, c3, c4, -⟩ := hS
    go_simp
  go_frame
  refine h_val (i := 4) (v := .bool true) rfl (by kernel_rfl) (by kernel_rfl) (by kernel_rfl) (fun _ _ _ h => h) (by rfl) (fun wz hS => ?_) K.out ?_
  · obtain ⟨c1, c2, c3, c4, -⟩ := hS
    go_simp
  go_frame
  refine h_val (i := 5) (v := .bool true) rfl (by kernel_rfl) (by kernel_rfl) (by kernel_rfl) (fun _ _ _ h => h) (by rfl) (fun wz hS => ?_) K.out ?_
  · obtain ⟨c1, c2, c3, c4, -⟩ := hS
    go_simp
  go_frame
  refine h_val (i := 6) (v := .bool true) rfl (by kernel_rfl) (by kernel_rfl) (by kernel_rfl) (fun _ _ _ h => h) (by rfl) (fun wz hS => ?_) K.out ?_
  · obtain ⟨c1, c2, c3, c4, -⟩ := hS
    go_simp
  go_frame
  refine h_val (i := 7) (v := .pointer none) rfl (by kernel_rfl) (by kernel_rfl) (by kernel_rfl) (fun _ _ _ h => h) (by rfl) (fun wz hS => ?_) K.out ?_
  · obtain ⟨c1, c2, c3, c4, -⟩ := hS
    go_simp
  go_frame
  refine h_val (i := 8) (v := .pointer (some ⟨bo, 1, none⟩)) rfl (by kernel_rfl) (by kernel_rfl) (by kernel_rfl) (fun _ _ _ h => h) (by rfl) (fun wz hS => ?_) K.out ?_
  · obtain ⟨c1, c2, c3, c4, -⟩ := hS
    go_simp
  go_frame
  refine h_val (i := 9) (v := .int .i64 i) rfl (by kernel_rfl) (by kernel_rfl) (by kernel_rfl) (fun _ _ _ h => h) (by rfl) (fun wz hS => ?_) K.out ?_
  · obtain ⟨c1, c2, c3, c4, -⟩ := hS
    go_simp
  go_frame
  refine h_val (i := 10) (v := .pointer (some ⟨bo, 3, none⟩)) rfl (by kernel_rfl) (by kernel_rfl) (by kernel_rfl) (fun _ _ _ h => h) (by rfl) (fun wz hS => ?_) K.out ?_
  · obtain ⟨c1, c2, c3, c4, -⟩ := hS
    go_simp
  go_frame
  refine h_val (i := 11) (v := .slice la ll lc) rfl (by kernel_rfl) (by kernel_rfl) (by kernel_rfl) (fun _ _ _ h => h) (by rfl) (fun wz hS => ?_) K.out ?_
  · obtain ⟨c1, c2, c3, c4, -⟩ := hS
    go_simp
  go_frame
  refine h_call (i := 12) (f := 11) (args := #[.pointer none, .int .i64 i, .slice la ll lc]) rfl (by kernel_rfl) (by rfl) (by go_simp) ?_
  refine (nil_insert _ _ _).mono ?_
  rintro e w7 ⟨rfl, bb⟩
  have B7 := Lib.hid (below_add B6.out bb B6.out.size)
  clear bb B6 K
  have K := Lib.hid (HCC.out _ (B7.out.mono HZZ.out))
  refine ⟨_, rfl, K.out, ?_⟩
  go_frame
  refine h_val (i := 13) (v := .bool true) rfl (by kernel_rfl) (by kernel_rfl) (by kernel_rfl) (fun _ _ _ h => h) (by rfl) (fun wz hS => ?_) K.out ?_
  · obtain ⟨c1, c2, c3, c4, -⟩ := hS
    go_simp
  go_frame
  refine h_val (i := 14) (v := .bool true) rfl (by kernel_rfl) (by kernel_rfl) (by kernel_rfl) (fun _ _ _ h => h) (by rfl) (fun wz hS => ?_) K.out ?_
  · obtain ⟨c1, c2, c3, c4, -⟩ := hS
    go_simp
  go_frame
  refine h_val (i := 15) (v := .bool true) rfl (by kernel_rfl) (by kernel_rfl) (by kernel_rfl) (fun _ _ _ h => h) (by rfl) (fun wz hS => ?_) K.out ?_
  · obtain ⟨c1, c2, c3, c4, -⟩ := hS
    go_simp
  go_frame
  refine h_val (i := 16) (v := .pointer none) rfl (by kernel_rfl) (by kernel_rfl) (by kernel_rfl) (fun _ _ _ h => h) (by rfl) (fun wz hS => ?_) K.out ?_
  · obtain ⟨c1, c2, c3, c4, -⟩ := hS
    go_simp
  go_frame
  refine h_val (i := 17) (v := .pointer (some ⟨bo, 1, none⟩)) rfl (by kernel_rfl) (by kernel_rfl) (by kernel_rfl) (fun _ _ _ h => h) (by rfl) (fun wz hS => ?_) K.out ?_
  · obtain ⟨c1, c2, c3, c4, -⟩ := hS
    go_simp
  go_frame
  refine h_val (i := 18) (v := .int .i64 i) rfl (by kernel_rfl) (by kernel_rfl) (by kernel_rfl) (fun _ _ _ h => h) (by rfl) (fun wz hS => ?_) K.out ?_
  · obtain ⟨c1, c2, c3, c4, -⟩ := hS
    go_simp
  go_frame
  refine h_val (i := 19) (v := .pointer (some ⟨bo, 2, none⟩)) rfl (by kernel_rfl) (by kernel_rfl) (by kernel_rfl) (fun _ _ _ h => h) (by rfl) (fun wz hS => ?_) K.out ?_
  · obtain ⟨c1, c2, c3, c4, -⟩ := hS
    go_simp
  go_frame
  refine h_val (i := 20) (v := .int .i64 m) rfl (by kernel_rfl) (by kernel_rfl) (by kernel_rfl) (fun _ _ _ h => h) (by rfl) (fun wz hS => ?_) K.out ?_
  · obtain ⟨c1, c2, c3, c4, -⟩ := hS
    go_simp
  go_frame
  refine h_call (i := 21) (f := 12) (args := #[.pointer none, .int .i64 i, .int .i64 m]) rfl (by kernel_rfl) (by rfl) (by go_simp) ?_
  refine (nil_delete _ _ _).mono ?_
  rintro e w8 ⟨rfl, bb⟩
  have B8 := Lib.hid (below_add B7.out bb B7.out.size)
  clear bb B7 K
  have K := Lib.hid (HCC.out _ (B8.out.mono HZZ.out))
  refine ⟨_, rfl, K.out, ?_⟩
  go_frame
  refine h_val (i := 22) (v := .bool true) rfl (by kernel_rfl) (by kernel_rfl) (by kernel_rfl) (fun _ _ _ h => h) (by rfl) (fun wz hS => ?_) K.out ?_
  · obtain ⟨c1, c2, c3, c4, -⟩ := hS
    go_simp
  go_frame
  refine h_val (i := 23) (v := .bool true) rfl (by kernel_rfl) (by kernel_rfl) (by kernel_rfl) (fun _ _ _ h => h) (by rfl) (fun wz hS => ?_) K.out ?_
  · obtain ⟨c1, c2, c3, c4, -⟩ := hS
    go_simp
  go_frame
  refine h_val (i := 24) (v := .bool true) rfl (by kernel_rfl) (by kernel_rfl) (by kernel_rfl) (fun _ _ _ h => h) (by rfl) (fun wz hS => ?_) K.out ?_
  · obtain ⟨c1, c2, c3, c4, -⟩ := hS
    go_simp
  go_frame
  refine h_val (i := 25) (v := .pointer none) rfl (by kernel_rfl) (by kernel_rfl) (by kernel_rfl) (fun _ _ _ h => h) (by rfl) (fun wz hS => ?_) K.out ?_
  · obtain ⟨c1, c2, c3, c4, -⟩ := hS
    go_simp
  go_frame
  refine h_val (i := 26) (v := .pointer (some ⟨bo, 1, none⟩)) rfl (by kernel_rfl) (by kernel_rfl) (by kernel_rfl) (fun _ _ _ h => h) (by rfl) (fun wz hS => ?_) K.out ?_
  · obtain ⟨c1, c2, c3, c4, -⟩ := hS
    go_simp
  go_frame
  refine h_val (i := 27) (v := .int .i64 i) rfl (by kernel_rfl) (by kernel_rfl) (by kernel_rfl) (fun _ _ _ h => h) (by rfl) (fun wz hS => ?_) K.out ?_
  · obtain ⟨c1, c2, c3, c4, -⟩ := hS
    go_simp
  go_frame
  refine h_val (i := 28) (v := .pointer (some ⟨bo, 2, none⟩)) rfl (by kernel_rfl) (by kernel_rfl) (by kernel_rfl) (fun _ _ _ h => h) (by rfl) (fun wz hS => ?_) K.out ?_
  · obtain ⟨c1, c2, c3, c4, -⟩ := hS
    go_simp
  go_frame
  refine h_val (i := 29) (v := .int .i64 m) rfl (by kernel_rfl) (by kernel_rfl) (by kernel_rfl) (fun _ _ _ h => h) (by rfl) (fun wz hS => ?_) K.out ?_
  · obtain ⟨c1, c2, c3, c4, -⟩ := hS
    go_simp
  go_frame
  refine h_val (i := 30) (v := .pointer (some ⟨bo, 4, none⟩)) rfl (by kernel_rfl) (by kernel_rfl) (by kernel_rfl) (fun _ _ _ h => h) (by rfl) (fun wz hS => ?_) K.out ?_
  · obtain ⟨c1, c2, c3, c4, -⟩ := hS
    go_simp
  go_frame
  refine h_val (i := 31) (v := .slice xa xl xc) rfl (by kernel_rfl) (by kernel_rfl) (by kernel_rfl) (fun _ _ _ h => h) (by rfl) (fun wz hS => ?_) K.out ?_
  · obtain ⟨c1, c2, c3, c4, -⟩ := hS
    go_simp
  go_frame
  refine h_call (i := 32) (f := 13) (args := #[.pointer none, .int .i64 i, .int .i64 m, .slice xa xl xc]) rfl (by kernel_rfl) (by rfl) (by go_simp) ?_
  refine (nil_patch _ _ _ _ _ _).mono ?_
  rintro e w9 ⟨rfl, bb⟩
  have B9 := Lib.hid (below_add B8.out bb B8.out.size)
  clear bb B8 K
  have K := Lib.hid (HCC.out _ (B9.out.mono HZZ.out))
  refine ⟨_, rfl, K.out, ?_⟩
  go_frame
  refine h_val (i := 33) (v := .bool true) rfl (by kernel_rfl) (by kernel_rfl) (by kernel_rfl) (fun _ _ _ h => h) (by rfl) (fun wz hS => ?_) K.out ?_
  · obtain ⟨c1, c2, c3, c4, -⟩ := hS
    go_simp
  go_frame
  refine h_val (i := 34) (v := .bool true) rfl (by kernel_rfl) (by kernel_rfl) (by kernel_rfl) (fun _ _ _ h => h) (by rfl) (fun wz hS => ?_) K.out ?_
  · obtain ⟨c1, c2, c3, c4, -⟩ := hS
    go_simp
  go_frame
  refine h_val (i := 35) (v := .bool true) rfl (by kernel_rfl) (by kernel_rfl) (by kernel_rfl) (fun _ _ _ h => h) (by rfl) (fun wz hS => ?_) K.out ?_
  · obtain ⟨c1, c2, c3, c4, -⟩ := hS
    go_simp
  go_frame
  refine h_val (i := 36) (v := .pointer none) rfl (by kernel_rfl) (by kernel_rfl) (by kernel_rfl) (fun _ _ _ h => h) (by rfl) (fun wz hS => ?_) K.out ?_
  · obtain ⟨c1, c2, c3, c4, -⟩ := hS
    go_simp
  go_frame
  refine h_val (i := 38) (v := .pointer none) rfl (by kernel_rfl) (by kernel_rfl) (by kernel_rfl) (fun _ _ _ h => h) (by rfl) (fun wz hS => ?_) K.out ?_
  · obtain ⟨c1, c2, c3, c4, -⟩ := hS
    go_simp
  go_frame
  refine h_call (i := 37) (f := 14) (args := #[.pointer none]) rfl (by kernel_rfl) (by rfl) (by go_simp) ?_
  refine (nil_len _).mono ?_
  rintro e w10 ⟨rfl, bb⟩
  have B10 := Lib.hid (below_add B9.out bb B9.out.size)
  clear bb B9 K
  have K := Lib.hid (HCC.out _ (B10.out.mono HZZ.out))
  refine ⟨_, rfl, K.out, ?_⟩
  go_frame
  refine h_call (i := 39) (f := 15) (args := #[.pointer none]) rfl (by kernel_rfl) (by rfl) (by go_simp) ?_
  refine (nil_height _).mono ?_
  rintro e w11 ⟨rfl, bb⟩
  have B11 := Lib.hid (below_add B10.out bb B10.out.size)
  clear bb B10 K
  have K := Lib.hid (HCC.out _ (B11.out.mono HZZ.out))
  refine ⟨_, rfl, K.out, ?_⟩
  go_frame
  refine h_val (i := 40) (v := .int .i64 0) rfl (by kernel_rfl) (by kernel_rfl) (by kernel_rfl) (fun _ _ _ h => h) (by rfl) (fun wz hS => ?_) K.out ?_
  · obtain ⟨c1, c2, c3, c4, -⟩ := hS
    go_simp
    rfl
  go_frame
  refine h_val (i := 41) (v := .bool true) rfl (by kernel_rfl) (by kernel_rfl) (by kernel_rfl) (fun _ _ _ h => h) (by rfl) (fun wz hS => ?_) K.out ?_
  · obtain ⟨c1, c2, c3, c4, -⟩ := hS
    go_simp
  go_frame
  refine h_val (i := 42) (v := .bool true) rfl (by kernel_rfl) (by kernel_rfl) (by kernel_rfl) (fun _ _ _ h => h) (by rfl) (fun wz hS => ?_) K.out ?_
  · obtain ⟨c1, c2, c3, c4, -⟩ := hS
    go_simp
  go_frame
  refine h_val (i := 43) (v := .bool true) rfl (by kernel_rfl) (by kernel_rfl) (by kernel_rfl) (fun _ _ _ h => h) (by rfl) (fun wz hS => ?_) K.out ?_
  · obtain ⟨c1, c2, c3, c4, -⟩ := hS
    go_simp
  go_frame
  refine h_val (i := 44) (v := .pointer none) rfl (by kernel_rfl) (by kernel_rfl) (by kernel_rfl) (fun _ _ _ h => h) (by rfl) (fun wz hS => ?_) K.out ?_
  · obtain ⟨c1, c2, c3, c4, -⟩ := hS
    go_simp
  go_frame
  refine h_call (i := 45) (f := 16) (args := #[.pointer none]) rfl (by kernel_rfl) (by rfl) (by go_simp) ?_
  refine (nil_copy _).mono ?_
  rintro e w12 ⟨rfl, bb⟩
  have B12 := Lib.hid (below_add B11.out bb B11.out.size)
  clear bb B11 K
  have K := Lib.hid (HCC.out _ (B12.out.mono HZZ.out))
  refine ⟨_, rfl, K.out, ?_⟩
  go_frame
  refine h_val (i := 46) (v := .bool true) rfl (by kernel_rfl) (by kernel_rfl) (by kernel_rfl) (fun _ _ _ h => h) (by rfl) (fun wz hS => ?_) K.out ?_
  · obtain ⟨c1, c2, c3, c4, -⟩ := hS
    go_simp
  go_frame
  refine h_val (i := 47) (v := .bool true) rfl (by kernel_rfl) (by kernel_rfl) (by kernel_rfl) (fun _ _ _ h => h) (by rfl) (fun wz hS => ?_) K.out ?_
  · obtain ⟨c1, c2, c3, c4, -⟩ := hS
    go_simp
  go_frame
  refine h_val (i := 48) (v := .bool true) rfl (by kernel_rfl) (by kernel_rfl) (by kernel_rfl) (fun _ _ _ h => h) (by rfl) (fun wz hS => ?_) K.out ?_
  · obtain ⟨c1, c2, c3, c4, -⟩ := hS
    go_simp
  go_frame
  refine h_call (i := 49) (f := 14) (args := #[.pointer (some ⟨bz, 0, none⟩)]) rfl (by kernel_rfl) (by rfl) (by go_simp) ?_
  refine (rx_len (HZ.out _ B12.out)).mono ?_
  rintro e w13 ⟨rfl, bb⟩
  have B13 := Lib.hid (below_add B12.out bb B12.out.size)
  clear bb B12 K
  have K := Lib.hid (HCC.out _ (B13.out.mono HZZ.out))
  refine ⟨_, rfl, K.out, ?_⟩
  go_frame
  refine h_val (i := 50) (v := .bool true) rfl (by kernel_rfl) (by kernel_rfl) (by kernel_rfl) (fun _ _ _ h => h) (by rfl) (fun wz hS => ?_) K.out ?_
  · obtain ⟨c1, c2, c3, c4, -⟩ := hS
    go_simp
  go_frame
  refine h_val (i := 51) (v := .bool true) rfl (by kernel_rfl) (by kernel_rfl) (by kernel_rfl) (fun _ _ _ h => h) (by rfl) (fun wz hS => ?_) K.out ?_
  · obtain ⟨c1, c2, c3, c4, -⟩ := hS
    go_simp
  go_frame
  refine h_val (i := 52) (v := .bool true) rfl (by kernel_rfl) (by kernel_rfl) (by kernel_rfl) (fun _ _ _ h => h) (by rfl) (fun wz hS => ?_) K.out ?_
  · obtain ⟨c1, c2, c3, c4, -⟩ := hS
    go_simp
  go_frame
  refine h_val (i := 53) (v := .pointer (some ⟨bo, 3, none⟩)) rfl (by kernel_rfl) (by kernel_rfl) (by kernel_rfl) (fun _ _ _ h => h) (by rfl) (fun wz hS => ?_) K.out ?_
  · obtain ⟨c1, c2, c3, c4, -⟩ := hS
    go_simp
  go_frame
  refine h_val (i := 54) (v := .slice la ll lc) rfl (by kernel_rfl) (by kernel_rfl) (by kernel_rfl) (fun _ _ _ h => h) (by rfl) (fun wz hS => ?_) K.out ?_
  · obtain ⟨c1, c2, c3, c4, -⟩ := hS
    go_simp
  go_frame
  refine h_call (i := 55) (f := 11) (args := #[.pointer (some ⟨bz, 0, none⟩), .int .i64 0, .slice la ll lc]) rfl (by kernel_rfl) (by rfl) (by go_simp) ?_
  refine (rx_insert0 (L := L) (HZ.out _ B13.out) K.out.2.2.2.2 (fun W hb => HN4.out W ((B13.out.mono HZZ.out).trans hb)) (fun s hm => Nat.le_trans (HS70.out s hm) (by decide)) (Nat.le_trans HL60.out (by decide))).mono ?_
  rintro e w14 ⟨rfl, q1, bb⟩
  have R14 := Lib.hid q1
  have B14 := Lib.hid ((B13.out.mono HZZ.out).trans bb)
  clear bb q1 B13 K
  have K := Lib.hid (HCC.out _ B14.out)
  refine ⟨_, rfl, K.out, ?_⟩
  go_frame
  refine h_val (i := 56) (v := .bool true) rfl (by kernel_rfl) (by kernel_rfl) (by kernel_rfl) (fun _ _ _ h => h) (by rfl) (fun wz hS => ?_) K.out ?_
  · obtain ⟨c1, c2, c3, c4, -⟩ := hS
    go_simp
  go_frame
  refine h_val (i := 57) (v := .bool true) rfl (by kernel_rfl) (by kernel_rfl) (by kernel_rfl) (fun _ _ _ h => h) (by rfl) (fun wz hS => ?_) K.out ?_
  · obtain ⟨c1, c2, c3, c4, -⟩ := hS
    go_simp
  go_frame
  refine h_val (i := 58) (v := .bool true) rfl (by kernel_rfl) (by kernel_rfl) (by kernel_rfl) (fun _ _ _ h => h) (by rfl) (fun wz hS => ?_) K.out ?_
  · obtain ⟨c1, c2, c3, c4, -⟩ := hS
    go_simp
  go_frame
  refine h_val (i := 60) (v := .pointer (some ⟨bo, 3, none⟩)) rfl (by kernel_rfl) (by kernel_rfl) (by kernel_rfl) (fun _ _ _ h => h) (by rfl) (fun wz hS => ?_) K.out ?_
  · obtain ⟨c1, c2, c3, c4, -⟩ := hS
    go_simp
  go_frame
  refine h_val (i := 61) (v := .slice la ll lc) rfl (by kernel_rfl) (by kernel_rfl) (by kernel_rfl) (fun _ _ _ h => h) (by rfl) (fun wz hS => ?_) K.out ?_
  · obtain ⟨c1, c2, c3, c4, -⟩ := hS
    go_simp
  go_frame
  refine h_val (i := 62) (v := .int .i64 (ll : Nat)) rfl (by kernel_rfl) (by kernel_rfl) (by kernel_rfl) (fun _ _ _ h => h) (by rfl) (fun wz hS => ?_) K.out ?_
  · obtain ⟨c1, c2, c3, c4, -⟩ := hS
    go_simp
  go_frame
  refine h_call (i := 59) (f := 14) (args := #[.pointer (some ⟨bz, 0, none⟩)]) rfl (by kernel_rfl) (by rfl) (by go_simp) ?_
  refine (rx_len R14.out).mono ?_
  rintro e w15 ⟨rfl, bb⟩
  have B15 := Lib.hid (below_add B14.out bb K.out.2.2.2.2)
  clear bb K
  have K := Lib.hid (HCC.out _ B15.out)
  rw [← HLL.out]
  refine ⟨_, rfl, K.out, ?_⟩
  go_frame
  refine h_val (i := 63) (v := .bool true) rfl (by kernel_rfl) (by kernel_rfl) (by kernel_rfl) (fun _ _ _ h => h) (by rfl) (fun wz hS => ?_) K.out ?_
  · obtain ⟨c1, c2, c3, c4, -⟩ := hS
    go_simp
  go_frame
  refine h_val (i := 64) (v := .bool true) rfl (by kernel_rfl) (by kernel_rfl) (by kernel_rfl) (fun _ _ _ h => h) (by rfl) (fun wz hS => ?_) K.out ?_
  · obtain ⟨c1, c2, c3, c4, -⟩ := hS
    go_simp
  go_frame
  refine h_val (i := 65) (v := .bool true) rfl (by kernel_rfl) (by kernel_rfl) (by kernel_rfl) (fun _ _ _ h => h) (by rfl) (fun wz hS => ?_) K.out ?_
  · obtain ⟨c1, c2, c3, c4, -⟩ := hS
    go_simp
  go_frame
  refine h_call (i := 66) (f := 8) (args := #[]) rfl (by kernel_rfl) (by rfl) (by go_simp) ?_
  refine (known13_any _).mono ?_
  rintro e w16 ⟨rfl, bb⟩
  have B16 := Lib.hid (below_add B15.out bb K.out.2.2.2.2)
  clear bb K
  have K := Lib.hid (HCC.out _ B16.out)
  refine ⟨_, rfl, K.out, ?_⟩
  go_frame
  refine h_val (i := 67) (v := .bool true) rfl (by kernel_rfl) (by kernel_rfl) (by kernel_rfl) (fun _ _ _ h => h) (by rfl) (fun wz hS => ?_) K.out ?_
  · obtain ⟨c1, c2, c3, c4, -⟩ := hS
    go_simp
  go_frame
  refine h_val (i := 68) (v := .bool true) rfl (by kernel_rfl) (by kernel_rfl) (by kernel_rfl) (fun _ _ _ h => h) (by rfl) (fun wz hS => ?_) K.out ?_
  · obtain ⟨c1, c2, c3, c4, -⟩ := hS
    go_simp
  go_frame
  refine h_done (by kernel_rfl) ?_
  go_wp2
  go_ret
  exact ⟨rfl, by rw [HBO.out]; exact HB0.out.trans (B16.out.mono HLT.out)⟩
theorem none_walk (o : OpV) (p : OpL) (w : World) (hp : OpR w o p) :
    Calls Try.prog 3 #[opA o] w fun e w' => e = .returned (.bool true) ∧ Below w.heap.size w w' := by
  by_cases hs : smallL [p]
  · exact none_yes o p w hp hs
  · exact none_no o p w hp hs
end Go.Proofs.Yteodfbkfpboehaa
