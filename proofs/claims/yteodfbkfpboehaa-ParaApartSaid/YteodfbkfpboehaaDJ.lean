
import Derived.Test.YteodfbkfpboehaaDI
/- DJ: a fork is opened; a tree is dropped -/
namespace Go.Proofs.Yteodfbkfpboehaa
open Go.RowKit
set_option linter.unusedVariables false
set_option maxRecDepth 100000

/-- Blocks of S that lay there ahead of the call, and what is made from now on: none of the call's own variables. -/
def Loc (S : Nat → Prop) (w W : World) : Nat → Prop := fun k => (S k ∧ k < w.heap.size) ∨ W.heap.size ≤ k
section
variable {D : Sv → Prop} {S : Nat → Prop} {tb an cn : Nat} {U V : Nat → Prop} {root : Int} {A A' : ArS Nd} {C C' : ArS Ck} {F : List TC} {w w' W : World}
theorem loc_up (S : Nat → Prop) (w W : World) : Up (Loc S w W) W := fun k hk => .inr hk
theorem loc_sub (hup : Up S w) (hz : w.heap.size ≤ W.heap.size) : ∀ k, Loc S w W k → S k := fun k hk => by
  rcases hk with hk | hk
  · exact hk.1
  · exact hup k (by omega)
theorem loc_not {b : Nat} (h1 : w.heap.size ≤ b) (h2 : b < W.heap.size) : ¬ Loc S w W b := fun h => by
  rcases h with h | h
  · omega
  · omega
theorem St.loc (h : St D S tb root F w) (hb : Below w.heap.size w W) : St D (Loc S w W) tb root F W := (h.cut.below hb).mono (fun k hk => .inl hk)
theorem TrM.loc (h : TrM D S tb an cn U V root A C w) (hb : Below w.heap.size w W) : TrM D (Loc S w W) tb an cn U V root A C W := (h.cut.below hb).mono (fun k hk => .inl hk)
theorem Off.unloc (hup : Up S w) (hb : Below w.heap.size w W) (ho : Off (Loc S w W) W w') : Off S w w' := Off.below_l hb (ho.mono (loc_sub hup hb.size))
theorem St.unloc (hup : Up S w) (hz : w.heap.size ≤ W.heap.size) (h : St D (Loc S w W) tb root F w') : St D S tb root F w' := h.mono (loc_sub hup hz)

theorem open_raw (h : TrM D S tb an cn U V root A C w) (hup : Up S w) (n : Nat) (l r : TC) (hT : (Tr.fork n l r).In Wc A C) :
    Calls Try.prog 62 #[.pointer (some ⟨tb, 0, none⟩), .int .i64 (n : Nat)] w fun e w' => e = .returned (.tuple #[.int .i64 l.id, .int .i64 r.id]) ∧ ∃ U', TrM D S tb an cn U' V root (A.out n) C w' ∧ Off S w w' := by
  have HAT := Lib.hid (at_any (.fork n l r) h hT)
  have ha := hT.1
  obtain ⟨Hh, Ln, Mk, hnd⟩ : ∃ Hh Ln Mk : Int, Tr.nd Wc (.fork n l r) = ⟨1, Hh, Ln, Mk, l.id, r.id, -1⟩ := ⟨_, _, _, rfl⟩
  have hid : (Tr.fork n l r : TC).id = (n : Nat) := rfl
  rw [hnd, hid] at HAT
  rw [hnd] at ha
  clear hnd hid hT
  generalize l.id = li at *
  generalize r.id = ri at *
  have HT := Lib.hid h
  have HUP := Lib.hid hup
  have HA := Lib.hid ha
  clear h hup ha
  go_enter Try.func62, Try.ntmps62
  go_upto_region 3 with (first
    | (go_at_call 51; refine HAT.out.mono ?_; rintro e w1 ⟨rfl, b1⟩; have B1 := Lib.hid (b1.alloc b1.size (.cells ndz 102)); have V1 := Lib.hid (cb_new w1 102 ndz); have V2 := Lib.hid (V1.out.set (ndc ⟨1, Hh, Ln, Mk, li, ri, -1⟩)); have B2 := Lib.hid (below_row (cs := ndc ⟨1, Hh, Ln, Mk, li, ri, -1⟩) B1.out (b := w1.heap.size) b1.size); have Z1 := Lib.hid b1.size; clear b1; have c0 : _ = some (Value.int .i64 1) := V2.out.cell 0)
    | (refine wpList_store_row rfl 102 (.tmp 6) (.tmp 9) rfl w1.heap.size (ndc ⟨1, Hh, Ln, Mk, li, ri, -1⟩) rfl rfl _ _ V1.out (ninfo _) rfl (none_n _) ?_))
  refine with_worldT (fun W => Cb w1.heap.size 102 (ndc ⟨1, Hh, Ln, Mk, li, ri, -1⟩) W ∧ Below w.heap.size w W) ⟨V2.out, B2.out⟩ fun W0 hW0 => ?_
  have T0 := Lib.hid (HT.out.below hW0.2)
  have hu : ¬ U w1.heap.size := fun hh => by have := HT.out.uw _ hh; have := Z1.out; omega
  obtain ⟨-, -, -, c3, -⟩ := T0.out.cells
  have K0 := Lib.hid hW0
  clear hW0 c0
  go_wp2_with (go_at_call 65; refine (free_yes_N T0.out.nodes HA.out).mono ?_; rintro e w2 ⟨rfl, hn, ho⟩; have K1 := Lib.hid (show Cb w1.heap.size 102 (ndc ⟨1, Hh, Ln, Mk, li, ri, -1⟩) w2.drew from (K0.out.1.off ho hu).below (below_drew w2)); have T1 := Lib.hid ((T0.out.stepN (HUP.out.below K0.out.2) ho hn).below (below_drew w2)); have O1 := Lib.hid ((Off.below_l K0.out.2 (T0.out.offN ho)).below_r (below_drew w2)); clear hn ho c3; refine Hid.out ?_)
  refine Lib.hid ?_
  refine Hid.out ?_
  refine Lib.hid ?_
  go_wp2_with fail
  refine h_start (S := fun W => Cb w1.heap.size 102 (ndc ⟨1, Hh, Ln, Mk, li, ri, -1⟩) W) (by kernel_rfl) ?_
  refine h_val (i := 0) (v := .pointer (some ⟨w1.heap.size, 4, none⟩)) rfl (by kernel_rfl) (by kernel_rfl) (by kernel_rfl) (fun _ _ _ h => h) (by rfl) (fun wz hS => ?_) K1.out ?_
  · skip
    go_simp
  go_frame
  refine h_val (i := 1) (v := .int .i64 li) rfl (by kernel_rfl) (by kernel_rfl) (by kernel_rfl) (fun _ _ _ h => h) (by rfl) (fun wz hS => ?_) K1.out ?_
  · skip
    have q4 : wz.cell? ⟨w1.heap.size, 4, none⟩ = some (.int .i64 li) := hS.cell 4
    go_simp
  go_frame
  refine h_val (i := 2) (v := .pointer (some ⟨w1.heap.size, 5, none⟩)) rfl (by kernel_rfl) (by kernel_rfl) (by kernel_rfl) (fun _ _ _ h => h) (by rfl) (fun wz hS => ?_) K1.out ?_
  · skip
    go_simp
  go_frame
  refine h_val (i := 3) (v := .int .i64 ri) rfl (by kernel_rfl) (by kernel_rfl) (by kernel_rfl) (fun _ _ _ h => h) (by rfl) (fun wz hS => ?_) K1.out ?_
  · skip
    have q5 : wz.cell? ⟨w1.heap.size, 5, none⟩ = some (.int .i64 ri) := hS.cell 5
    go_simp
  go_frame
  refine h_val (i := 4) (v := .int .i64 li) rfl (by kernel_rfl) (by kernel_rfl) (by kernel_rfl) (fun _ _ _ h => h) (by rfl) (fun wz hS => ?_) K1.out ?_
  · skip
    go_simp
  go_frame
  refine h_val (i := 5) (v := .int .i64 ri) rfl (by kernel_rfl) (by kernel_rfl) (by kernel_rfl) (fun _ _ _ h => h) (by rfl) (fun wz hS => ?_) K1.out ?_
  · skip
    go_simp
  go_frame
  refine h_done (by kernel_rfl) ?_
  go_wp2
  exact bodyPost_ret (by simp [results, Try.results62, go_sem]) rfl ⟨rfl, _, T1.out, O1.out⟩
theorem open_any (n : Nat) (l r : TC) (h : St D S tb root (.fork n l r :: F) w) (hup : Up S w) :
    Calls Try.prog 62 #[.pointer (some ⟨tb, 0, none⟩), .int .i64 (Tr.fork n l r : TC).id] w fun e w' => e = .returned (.tuple #[.int .i64 l.id, .int .i64 r.id]) ∧ St D S tb root (l :: r :: F) w' ∧ Off S w w' := by
  obtain ⟨an, cn, U, V, A, C, h1, h2⟩ := h
  refine (open_raw h1 hup n l r (h2.inn _ List.mem_cons_self)).mono ?_
  rintro e w' ⟨q1, U', q2, q3⟩
  exact ⟨q1, ⟨an, cn, U', V, _, C, q2, h2.opened⟩, q3⟩

theorem drop_nil (h : TrM D S tb an cn U V root A C w) : Calls Try.prog 44 #[.pointer (some ⟨tb, 0, none⟩), .int .i64 (-1)] w fun e w' => e = .returned (.tuple #[]) ∧ Below w.heap.size w w' := by
  have HAT := Lib.hid (at_not_N h.nodes (has_neg (show (-1 : Int) < 0 by decide)))
  obtain ⟨-, -, -, c3, -⟩ := h.cells
  clear h
  go_enter Try.func44, Try.ntmps44
  go_wp2_with (first
    | (go_at_call 63; refine HAT.out.mono ?_; rintro e w1 ⟨rfl, b1⟩; have B1 := Lib.hid (b1.alloc b1.size (.cells ndz 102)); have V1 := Lib.hid (cb_new w1 102 ndz); have B2 := Lib.hid (below_row (cs := ndc nd0) B1.out (b := w1.heap.size) b1.size); clear b1)
    | (refine wpList_store_row rfl 102 (.tmp 4) (.tmp 13) rfl w1.heap.size (ndc nd0) rfl rfl _ _ V1.out (ninfo nd0) rfl (none_n nd0) ?_))
  exact bodyPost_ret (results_none rfl _ _ _) rfl ⟨rfl, B2.out⟩
theorem drop_nil_any (h : St D S tb root (.nil :: F) w) (hup : Up S w) : Calls Try.prog 44 #[.pointer (some ⟨tb, 0, none⟩), .int .i64 (Tr.nil : TC).id] w fun e w' => e = .returned (.tuple #[]) ∧ St D S tb root F w' ∧ Off S w w' := by
  have h0 := h.unnil
  obtain ⟨an, cn, U, V, A, C, h1, h2⟩ := h
  exact (drop_nil h1).mono fun e w' ⟨q1, q2⟩ => ⟨q1, h0.below q2, Off.of_below q2⟩

set_option maxHeartbeats 1000000 in
theorem drop_step (h : TrM D S tb an cn U V root A C w) (hup : Up S w) (n : Nat) (l r : TC) (Hh Ln Mk th : Int) (ha : A.at_ n = some ⟨1, Hh, Ln, Mk, l.id, r.id, th⟩)
    (hx : ∀ (S' : Nat → Prop) (U' : Nat → Prop) (w' : World), TrM D S' tb an cn U' V root (A.out n) C w' → Up S' w' → Calls Try.prog 66 #[.pointer (some ⟨cn, 0, none⟩), .int .i64 th] w' fun e w'' => (∃ er : Int, e = .returned (.int .i64 er)) ∧ St D S' tb root (l :: r :: F) w'' ∧ Cb tb 92 (tcs an cn root) w'' ∧ Off S' w' w'')
    (hl : ∀ (S' : Nat → Prop) (w' : World), St D S' tb root (l :: r :: F) w' → Up S' w' → Calls Try.prog 44 #[.pointer (some ⟨tb, 0, none⟩), .int .i64 l.id] w' fun e w'' => e = .returned (.tuple #[]) ∧ St D S' tb root (r :: F) w'' ∧ Off S' w' w'')
    (hr : ∀ (S' : Nat → Prop) (w' : World), St D S' tb root (r :: F) w' → Up S' w' → Calls Try.prog 44 #[.pointer (some ⟨tb, 0, none⟩), .int .i64 r.id] w' fun e w'' => e = .returned (.tuple #[]) ∧ St D S' tb root F w'' ∧ Off S' w' w'') :
    Calls Try.prog 44 #[.pointer (some ⟨tb, 0, none⟩), .int .i64 (n : Nat)] w fun e w' => e = .returned (.tuple #[]) ∧ St D S tb root F w' ∧ Off S w w' := by
  have HAT := Lib.hid (ats_N h.nodes ha)
  rw [show (Value.agg (K_N.c ⟨1, Hh, Ln, Mk, l.id, r.id, th⟩).toArray) = ndv ⟨1, Hh, Ln, Mk, l.id, r.id, th⟩ from rfl] at HAT
  have HX := Lib.hid hx
  have HL := Lib.hid hl
  have HR := Lib.hid hr
  have HA := Lib.hid ha
  obtain ⟨li, hli⟩ : ∃ li, l.id = li := ⟨_, rfl⟩
  obtain ⟨ri, hri⟩ : ∃ ri, r.id = ri := ⟨_, rfl⟩
  rw [hli, hri] at HAT HA
  rw [hli] at HL
  rw [hri] at HR
  obtain ⟨-, -, -, c3, -⟩ := h.cells
  have HT := Lib.hid h
  have HUP := Lib.hid hup
  clear h hup ha hx hl hr hli hri
  go_enter Try.func44, Try.ntmps44
  go_upto_region 5 with (first
    | (go_at_call 63; refine HAT.out.mono ?_; rintro e w1 ⟨rfl, b1⟩; have B1 := Lib.hid (b1.alloc b1.size (.cells ndz 102)); have V1 := Lib.hid (cb_new w1 102 ndz); have V2 := Lib.hid (V1.out.set (ndc ⟨1, Hh, Ln, Mk, li, ri, th⟩)); have B2 := Lib.hid (below_row (cs := ndc ⟨1, Hh, Ln, Mk, li, ri, th⟩) B1.out (b := w1.heap.size) b1.size); have Z1 := Lib.hid b1.size; have c0 : _ = some (Value.int .i64 1) := V2.out.cell 0; have f0 := V2.out.frozen 0; clear b1)
    | (refine wpList_store_row rfl 102 (.tmp 4) (.tmp 13) rfl w1.heap.size (ndc ⟨1, Hh, Ln, Mk, li, ri, th⟩) rfl rfl _ _ V1.out (ninfo _) rfl (none_n _) ?_))
  have e3 : ((w1.alloc (.cells ndz 102)).setRow w1.heap.size (ndc ⟨1, Hh, Ln, Mk, li, ri, th⟩)).setCell ⟨w1.heap.size, 0, none⟩ (.int .i64 0) = ((w1.alloc (.cells ndz 102)).setRow w1.heap.size (ndc ⟨1, Hh, Ln, Mk, li, ri, th⟩)).setRow w1.heap.size (ndc ⟨0, Hh, Ln, Mk, li, ri, th⟩) := setCell_eq_setRow _ _ _ _ _ _ _ V2.out
  have V3 := V2.out.set (ndc ⟨0, Hh, Ln, Mk, li, ri, th⟩)
  have B3 := below_row (cs := ndc ⟨0, Hh, Ln, Mk, li, ri, th⟩) B2.out (b := w1.heap.size) Z1.out
  rw [← e3] at V3 B3
  clear e3 c0 f0
  refine with_worldT (fun W => Cb w1.heap.size 102 (ndc ⟨0, Hh, Ln, Mk, li, ri, th⟩) W ∧ Below w.heap.size w W) ⟨V3, B3⟩ fun W0 hW0 => ?_
  have K0 := Lib.hid hW0
  have hz : w1.heap.size < W0.heap.size := hW0.1.lt
  have hn1 := Lib.hid (loc_not (S := S) Z1.out hz)
  have hs0 := Lib.hid (loc_sub HUP.out hW0.2.size)
  have T0 := Lib.hid (HT.out.loc hW0.2)
  have P0 := Lib.hid (loc_up S w W0)
  have hu : ¬ U w1.heap.size := fun hh => by have := HT.out.uw _ hh; have := Z1.out; omega
  generalize Loc S w W0 = S' at *
  clear hW0 V3 B3 V1 V2 B1 B2 c3 hz HAT
  obtain ⟨-, -, -, c3, -⟩ := T0.out.cells
  go_wp2_with (go_at_call 65; refine (free_yes_N T0.out.nodes HA.out).mono ?_; rintro e w2 ⟨rfl, hn, ho⟩; have K1 := Lib.hid (show Cb w1.heap.size 102 (ndc ⟨0, Hh, Ln, Mk, li, ri, th⟩) w2.drew from (K0.out.1.off ho hu).below (below_drew w2)); have T1 := Lib.hid ((T0.out.stepN P0.out ho hn).below (below_drew w2)); have P1 := Lib.hid ((P0.out.off ho).below (below_drew (B := 0) w2)); have O1 := Lib.hid ((T0.out.offN ho).below_r (below_drew w2)); clear hn ho c3; refine Hid.out ?_)
  refine Lib.hid ?_
  refine Hid.out ?_
  refine Lib.hid ?_
  go_wp2_with fail
  have K2 := Lib.hid (And.intro T1.out.cb K1.out)
  refine h_start (S := fun W => Cb tb 92 (tcs an cn root) W ∧ Cb w1.heap.size 102 (ndc ⟨0, Hh, Ln, Mk, li, ri, th⟩) W) (by kernel_rfl) ?_
  refine h_val (i := 0) (v := .pointer (some ⟨tb, 0, none⟩)) rfl (by kernel_rfl) (by kernel_rfl) (by kernel_rfl) (fun _ _ _ h => h) (by rfl) (fun wz hS => ?_) K2.out ?_
  · skip
    go_simp
  go_frame
  refine h_val (i := 1) (v := .pointer (some ⟨tb, 0, none⟩)) rfl (by kernel_rfl) (by kernel_rfl) (by kernel_rfl) (fun _ _ _ h => h) (by rfl) (fun wz hS => ?_) K2.out ?_
  · skip
    go_simp
  go_frame
  refine h_val (i := 2) (v := .pointer (some ⟨tb, 4, none⟩)) rfl (by kernel_rfl) (by kernel_rfl) (by kernel_rfl) (fun _ _ _ h => h) (by rfl) (fun wz hS => ?_) K2.out ?_
  · skip
    go_simp
  go_frame
  refine h_val (i := 3) (v := .pointer (some ⟨cn, 0, none⟩)) rfl (by kernel_rfl) (by kernel_rfl) (by kernel_rfl) (fun _ _ _ h => h) (by rfl) (fun wz hS => ?_) K2.out ?_
  · skip
    have q4 : wz.cell? ⟨tb, 4, none⟩ = some (.pointer (some ⟨cn, 0, none⟩)) := hS.1.cell 4
    go_simp
  go_frame
  refine h_val (i := 4) (v := .pointer (some ⟨w1.heap.size, 6, none⟩)) rfl (by kernel_rfl) (by kernel_rfl) (by kernel_rfl) (fun _ _ _ h => h) (by rfl) (fun wz hS => ?_) K2.out ?_
  · skip
    go_simp
  go_frame
  refine h_val (i := 5) (v := .int .i64 th) rfl (by kernel_rfl) (by kernel_rfl) (by kernel_rfl) (fun _ _ _ h => h) (by rfl) (fun wz hS => ?_) K2.out ?_
  · skip
    have q6 : wz.cell? ⟨w1.heap.size, 6, none⟩ = some (.int .i64 th) := hS.2.cell 6
    go_simp
  go_frame
  refine h_all1 (i := 6) (by kernel_rfl) ?_
  refine o_call (f := 66) (args := #[.pointer (some ⟨cn, 0, none⟩), .int .i64 th]) rfl (by rfl) (by go_simp) ?_
  refine (HX.out S' _ _ T1.out P1.out).mono ?_
  rintro e w3 ⟨⟨er, rfl⟩, hs3, hc3, ho3⟩
  have K_3 := Lib.hid (And.intro (hc3 : Cb tb 92 (tcs an cn root) w3) (K1.out.off ho3 hn1.out))
  have S3 := Lib.hid hs3
  have O3 := Lib.hid (O1.out.seq ho3)
  have P3 := Lib.hid (P1.out.off ho3)
  refine ⟨_, rfl, K_3.out, ?_⟩
  go_frame
  refine h_done (by kernel_rfl) ?_
  have c4 : _ = some (Value.int .i64 li) := K_3.out.2.cell 4
  go_wp2_with (first
    | (go_at_call 44; refine (HL.out S' _ S3.out P3.out).mono ?_; clear HL; rintro e w4 ⟨rfl, hs4, ho4⟩; have K4 := Lib.hid (K_3.out.2.off ho4 hn1.out); have S4 := Lib.hid hs4; have O4 := Lib.hid (O3.out.seq ho4); have P4 := Lib.hid (P3.out.off ho4); clear hs4 ho4; have c5 : _ = some (Value.int .i64 ri) := K4.out.cell 5)
    | (go_at_call 44; refine (HR.out S' _ S4.out P4.out).mono ?_; clear HR; rintro e w5 ⟨rfl, hs5, ho5⟩; have S5 := Lib.hid hs5; have O5 := Lib.hid (O4.out.seq ho5); clear hs5 ho5))
  go_end0
  exact ⟨rfl, S5.out.mono hs0.out, Off.below_l K0.out.2 (O5.out.mono hs0.out)⟩

theorem drop_any : ∀ (T : TC) (F : List TC) (S : Nat → Prop) (w : World), St D S tb root (T :: F) w → Up S w →
    Calls Try.prog 44 #[.pointer (some ⟨tb, 0, none⟩), .int .i64 T.id] w fun e w' => e = .returned (.tuple #[]) ∧ St D S tb root F w' ∧ Off S w w'
  | .nil, F, S, w, h, hup => drop_nil_any h hup
  | .leaf n t x, F, S, w, h, hup => by
    obtain ⟨an, cn, U, V, A, C, h1, h2⟩ := h
    have hi := h2.inn _ List.mem_cons_self
    refine drop_step (F := F) h1 hup n .nil .nil 1 _ _ _ hi.1 (fun S' U' w' h' hup' => ?_) (fun S' w' h' hup' => drop_nil_any h' hup') (fun S' w' h' hup' => drop_nil_any h' hup')
    refine (free_yes_X h'.things hi.2.1).mono ?_
    rintro e w'' ⟨q1, q2, q3⟩
    have hT := h'.stepX hup' q3 q2 (fun j y hy => by rw [at_out] at hy; split at hy; exact absurd hy (by simp); exact h'.cD j y hy)
    exact ⟨⟨0, q1⟩, (show St D S' tb root F w'' from ⟨an, cn, _, _, _, _, hT, h2.dropped⟩).nil.nil, hT.cb, h'.offX q3⟩
  | .fork n l r, F, S, w, h, hup => by
    obtain ⟨an, cn, U, V, A, C, h1, h2⟩ := h
    have hi := h2.inn _ List.mem_cons_self
    refine drop_step (F := F) h1 hup n l r _ _ _ (-1) hi.1 (fun S' U' w' h' hup' => ?_) (fun S' w' h' hup' => drop_any l (r :: F) S' w' h' hup') (fun S' w' h' hup' => drop_any r F S' w' h' hup')
    refine (free_not_X h'.things (has_neg (by decide))).mono ?_
    rintro e w'' ⟨q1, rfl⟩
    exact ⟨⟨5, q1⟩, ⟨an, cn, _, _, _, _, h', h2.opened⟩, h'.cb, Off.refl _ _⟩
end
end Go.Proofs.Yteodfbkfpboehaa
