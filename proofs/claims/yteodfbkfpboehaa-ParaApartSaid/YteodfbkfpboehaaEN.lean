
import Derived.Test.YteodfbkfpboehaaEM
/- EN: known -/
namespace Go.Proofs.Yteodfbkfpboehaa
open Go.RowKit Go.Shelf
set_option linter.unusedVariables false
set_option maxRecDepth 100000

@[reducible] def e13 : ByteArray := ⟨#[]⟩
@[reducible] def lvA (n : Int) : Att := ⟨14, 2, n, 0, e13⟩
@[reducible] def lvC (n : Int) : Chg := ⟨14, false, 2, n, 0, e13⟩
theorem level_any (n : Int) (w : World) : Calls Try.prog 22 #[.int .i64 n] w fun e w' => e = .returned (.slice (some ⟨w.heap.size, 0, none⟩) 1 1) ∧ w' = w.alloc (.cells (aca (lvA n)) 77) := by
  go_enter Try.func22, Try.ntmps22
  go_wp2
  go_ret
  exact ⟨rfl, rfl⟩
theorem levels_any (n : Int) (w : World) : Calls Try.prog 23 #[.int .i64 n] w fun e w' => e = .returned (.slice (some ⟨w.heap.size, 0, none⟩) 1 1) ∧ w' = w.alloc (.cells (cca (lvC n)) 50) := by
  go_enter Try.func23, Try.ntmps23
  go_wp2
  go_ret
  exact ⟨rfl, rfl⟩
theorem arow_cb {b : Nat} {t : TypeId} {x : Att} {w : World} (h : Cb b t (aca x) w) : Arow w (.slice (some ⟨b, 0, none⟩) 1 1) [x] :=
  .inr ⟨b, 0, 1, rfl, by simp, by simp, by unfold maxLen; omega, fun j u hu => by rw [h.cell, ← hu]; simp [fl_one, attC]⟩
theorem crow_cb {b : Nat} {t : TypeId} {x : Chg} {w : World} (h : Cb b t (cca x) w) : Crow w (.slice (some ⟨b, 0, none⟩) 1 1) [x] :=
  .inr ⟨b, 0, 1, rfl, by simp, by simp, by unfold maxLen; omega, fun j u hu => by rw [h.cell, ← hu]; simp [fl_one, chC]⟩
theorem nrow_two {b N : Nat} {t t' : TypeId} {x : Att} {w : World} (h : Cb b t (aca x) w) (h2 : Cb N t' #[.slice none 0 0, .slice (some ⟨b, 0, none⟩) 1 1] w) : Nrow w (.slice (some ⟨N, 0, none⟩) 2 2) [[], [x]] := by
  refine ⟨[⟨none, 0, 0⟩, ⟨some ⟨b, 0, none⟩, 1, 1⟩], fun s => if s.l = 0 then [] else [x], .inr ⟨N, 0, 2, rfl, by simp, by simp, by unfold maxLen; omega, fun j u hu => ?_⟩, by simp, fun s hs => ?_⟩
  · rw [h2.cell, ← hu]
    match j with
    | 0 => simp [Go.Proofs.Yteodfbkfpboehaa.fl, svC, SV.v]
    | 1 => simp [Go.Proofs.Yteodfbkfpboehaa.fl, svC, SV.v]
    | j + 2 => simp [Go.Proofs.Yteodfbkfpboehaa.fl, svC, SV.v]
  · simp only [List.mem_cons, List.not_mem_nil, or_false] at hs
    rcases hs with rfl | rfl
    · exact Row.nil w
    · exact arow_cb h
theorem kn_app0 : app [] [lvC 2] = [lvA 2] := by
  unfold app comp chs
  rw [List.map_nil, sbs_nc, sbs_nn]
  simp [putC, ats]
theorem kn_app1 : app [lvA 1] [lvC 2] = [lvA 2] := by
  unfold app comp chs
  rw [List.map_cons, List.map_nil, sbs_eq (by decide) (by decide), sbs_nn]
  simp [putC, ats]
section
variable {B rb : Nat} {w w' W : World}
/-- What known asks, call by call. -/
theorem kn_ins (h : RX (fun k => B ≤ k) rb [] w) (hB : B ≤ w.heap.size) : Calls Try.prog 11 #[.pointer (some ⟨rb, 0, none⟩), .int .i64 0, .slice (some ⟨w.heap.size + 1, 0, none⟩) 2 2] ((w.alloc (.cells (aca (lvA 1)) 77)).alloc (.cells #[.slice none 0 0, .slice (some ⟨w.heap.size, 0, none⟩) 1 1] 33)) fun e w' => e = .returned (.int .i64 0) ∧ RX (fun k => B ≤ k) rb [[], [lvA 1]] w' ∧ Below B w w' := by
  have a1 := below_alloc1 w (.cells (aca (lvA 1)) 77)
  have c1 := (cb_new w 77 (aca (lvA 1))).alloc (.cells #[.slice none 0 0, .slice (some ⟨w.heap.size, 0, none⟩) 1 1] 33)
  have c2 := cb_new (w.alloc (.cells (aca (lvA 1)) 77)) 33 #[.slice none 0 0, .slice (some ⟨w.heap.size, 0, none⟩) 1 1]
  rw [World.size_alloc] at c2
  have a2 := a1.alloc a1.size (.cells #[.slice none 0 0, .slice (some ⟨w.heap.size, 0, none⟩) 1 1] 33)
  have hz : ((w.alloc (.cells (aca (lvA 1)) 77)).alloc (.cells #[.slice none 0 0, .slice (some ⟨w.heap.size, 0, none⟩) 1 1] 33)).heap.size = w.heap.size + 1 + 1 := by rw [World.size_alloc, World.size_alloc]
  have hX : RX (fun k => B ≤ k ∧ ¬ (k = w.heap.size ∨ k = w.heap.size + 1)) rb [] ((w.alloc (.cells (aca (lvA 1)) 77)).alloc (.cells #[.slice none 0 0, .slice (some ⟨w.heap.size, 0, none⟩) 1 1] 33)) := (h.mono (Y := fun k => B ≤ k ∧ ¬ (k = w.heap.size ∨ k = w.heap.size + 1)) (fun k hk hb => ⟨hb, by omega⟩)).below a2
  refine (rx_insert hX (fun k hk => ⟨by omega, by omega⟩) 0 _ (fun W ho => nrow_two (c1.off ho (fun q => q.2 (.inl rfl))) (c2.off ho (fun q => q.2 (.inr rfl)))) (by simp) (by decide)).mono ?_
  rintro e w' ⟨rfl, q1, q2⟩
  exact ⟨rfl, q1.mono (fun k _ q => q.1), (a2.mono hB).trans (q2.below (fun k q => q.1) (by omega))⟩
theorem kn_pat (h : RX (fun k => B ≤ k) rb [[], [lvA 1]] w) (hB : B ≤ w.heap.size) : Calls Try.prog 13 #[.pointer (some ⟨rb, 0, none⟩), .int .i64 0, .int .i64 2, .slice (some ⟨w.heap.size, 0, none⟩) 1 1] (w.alloc (.cells (cca (lvC 2)) 50)) fun e w' => e = .returned (.int .i64 0) ∧ RX (fun k => B ≤ k) rb [[lvA 2], [lvA 2]] w' ∧ Below B w w' := by
  have a1 := below_alloc1 w (.cells (cca (lvC 2)) 50)
  have c1 := cb_new w 50 (cca (lvC 2))
  have hz : (w.alloc (.cells (cca (lvC 2)) 50)).heap.size = w.heap.size + 1 := by rw [World.size_alloc]
  have hX : RX (fun k => B ≤ k ∧ ¬ k = w.heap.size) rb [[], [lvA 1]] (w.alloc (.cells (cca (lvC 2)) 50)) := (h.mono (Y := fun k => B ≤ k ∧ ¬ k = w.heap.size) (fun k hk hb => ⟨hb, by omega⟩)).below a1
  refine (rx_patch hX (fun k hk => ⟨by omega, by omega⟩) (by decide) 0 2 _ [lvC 2] (fun W ho => crow_cb (c1.off ho (fun q => q.2 rfl))) (by decide) (by simp)).mono ?_
  rintro e w' ⟨rfl, q1, q2⟩
  have e1 : patL [[], [lvA 1]] 0 2 [lvC 2] = [[lvA 2], [lvA 2]] := by
    have : patL [[], [lvA 1]] 0 2 [lvC 2] = [app [] [lvC 2], app [lvA 1] [lvC 2]] := rfl
    rw [this, kn_app0, kn_app1]
  rw [e1] at q1
  exact ⟨rfl, q1.mono (fun k _ q => q.1), (a1.mono hB).trans (q2.below (fun k q => q.1) (by omega))⟩
theorem kn_at0 (h : RX (fun k => B ≤ k) rb [[lvA 2], [lvA 2]] w) : Calls Try.prog 9 #[.pointer (some ⟨rb, 0, none⟩), .int .i64 0] w fun e w' => ∃ a c, e = .returned (.tuple #[.slice a 1 c, .int .i64 0]) ∧ Arow w' (.slice a 1 c) [lvA 2] ∧ Below w.heap.size w w' := by
  refine (rx_at h (by decide) 0).mono ?_
  rintro e w' ⟨u, rfl, q1, q2⟩
  obtain ⟨a, c, rfl⟩ := q1.row.shape
  exact ⟨a, c, rfl, q1.row, q2⟩
theorem kn_at2 (h : RX (fun k => B ≤ k) rb [[lvA 2], [lvA 2]] w) : Calls Try.prog 9 #[.pointer (some ⟨rb, 0, none⟩), .int .i64 2] w fun e w' => ∃ u, e = .returned (.tuple #[u, .int .i64 5]) ∧ Below w.heap.size w w' := by
  refine (rx_at h (by decide) 2).mono ?_
  rintro e w' ⟨u, rfl, q1, q2⟩
  exact ⟨u, rfl, q2⟩
theorem kn_same {a : Option Addr} {c : Nat} (h : Arow w (.slice a 1 c) [lvA 2]) : Calls Try.prog 18 #[.slice a 1 c, .slice (some ⟨w.heap.size, 0, none⟩) 1 1] (w.alloc (.cells (aca (lvA 2)) 77)) fun e w' => e = .returned (.bool true) ∧ Below (w.alloc (.cells (aca (lvA 2)) 77)).heap.size (w.alloc (.cells (aca (lvA 2)) 77)) w' := by
  refine (rsame_any5 _ _ _ _ _ (h.below (below_alloc1 w _) (Nat.le_refl _)) (arow_cb (cb_new w 77 (aca (lvA 2))))).mono ?_
  rintro e w' ⟨rfl, q, rfl⟩
  exact ⟨by rw [decide_eq_true rfl], blw_drewN (Below.refl _ _) q⟩
theorem kn_del (h : RX (fun k => B ≤ k) rb [[lvA 2], [lvA 2]] w) (hB : B ≤ w.heap.size) : Calls Try.prog 12 #[.pointer (some ⟨rb, 0, none⟩), .int .i64 0, .int .i64 1] w fun e w' => e = .returned (.int .i64 0) ∧ RX (fun k => B ≤ k) rb [[lvA 2]] w' ∧ Below B w w' := by
  refine (rx_delete h (fun k hk => by omega) (by decide) 0 1).mono ?_
  rintro e w' ⟨rfl, q1, q2⟩
  exact ⟨rfl, q1, q2.below (fun k q => q) hB⟩
set_option maxHeartbeats 2000000 in
theorem known13_any (w : World) : Calls Try.prog 8 #[] w fun e w' => e = .returned (.bool true) ∧ Below w.heap.size w w' := by
  have HN := Lib.hid (rx_new (X := fun k => w.heap.size ≤ k) w (fun k hk => hk))
  go_enter Try.func8, Try.ntmps8
  go_wp2_with (first
    | (go_at_call 17; refine HN.out.mono ?_; clear HN; rintro e w1 ⟨rb, rfl, q1, bb⟩; have R1 := Lib.hid q1; have B1 := Lib.hid bb; clear bb q1)
    | (go_at_call 22; (with_reducible refine (level_any 1 _).mono ?_); rintro e w2 ⟨rfl, rfl⟩)
    | (go_at_call 11; (with_reducible refine (kn_ins R1.out B1.out.size).mono ?_); rintro e w3 ⟨rfl, q1, bb⟩; have R3 := Lib.hid q1; have B3 := Lib.hid (B1.out.trans bb); clear bb q1 R1 B1)
    | (go_at_call 14; (with_reducible refine (rx_len R3.out).mono ?_); rintro e w4 ⟨rfl, bb⟩; have R4 := Lib.hid (R3.out.below bb); have B4 := Lib.hid (below_add B3.out bb B3.out.size); clear bb R3 B3)
    | (go_at_call 23; (with_reducible refine (levels_any 2 _).mono ?_); rintro e w5 ⟨rfl, rfl⟩)
    | (go_at_call 13; (with_reducible refine (kn_pat R4.out B4.out.size).mono ?_); rintro e w6 ⟨rfl, q1, bb⟩; have R6 := Lib.hid q1; have B6 := Lib.hid (B4.out.trans bb); clear bb q1 R4 B4)
    | (go_at_call 9; (with_reducible refine (kn_at0 R6.out).mono ?_); rintro e w7 ⟨a, c, rfl, q1, bb⟩; have A7 := Lib.hid q1; have R7 := Lib.hid (R6.out.below bb); have B7 := Lib.hid (below_add B6.out bb B6.out.size); clear bb q1 R6 B6)
    | (go_at_call 9; (with_reducible refine (kn_at2 R7.out).mono ?_); rintro e w8 ⟨u, rfl, bb⟩; have A8 := Lib.hid (A7.out.below bb (Nat.le_refl _)); have R8 := Lib.hid ((R7.out.below bb).below (below_alloc1 w8 (.cells (aca (lvA 2)) 77))); have B8 := Lib.hid ((below_add B7.out bb B7.out.size).alloc (below_add B7.out bb B7.out.size).size (.cells (aca (lvA 2)) 77)); clear bb R7 B7)
    | (go_at_call 22; (with_reducible refine (level_any 2 _).mono ?_); rintro e w9 ⟨rfl, rfl⟩)
    | (go_at_call 18; (with_reducible refine (kn_same A8.out).mono ?_); rintro e w10 ⟨rfl, bb⟩; have R10 := Lib.hid (R8.out.below bb); have B10 := Lib.hid (below_add B8.out bb B8.out.size); clear bb R8 B8)
    | (go_at_call 12; (with_reducible refine (kn_del R10.out B10.out.size).mono ?_); rintro e w11 ⟨rfl, q1, bb⟩; have R11 := Lib.hid q1; have B11 := Lib.hid (B10.out.trans bb); clear bb q1 R10 B10)
    | (go_at_call 14; (with_reducible refine (rx_len R11.out).mono ?_); rintro e w12 ⟨rfl, bb⟩; have B12 := Lib.hid (below_add B11.out bb B11.out.size); clear bb))
  go_ret
  exact ⟨rfl, B12.out⟩
end
end Go.Proofs.Yteodfbkfpboehaa
