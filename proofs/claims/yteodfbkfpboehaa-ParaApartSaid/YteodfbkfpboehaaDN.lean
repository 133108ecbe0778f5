
import Derived.Test.YteodfbkfpboehaaDM
/- DN: the last leaf, the first one -/
namespace Go.Proofs.Yteodfbkfpboehaa
open Go.RowKit
set_option linter.unusedVariables false
set_option maxRecDepth 100000

/-- The height that a node's variable tells. -/
def htAt (b : Nat) (w : World) : Nat := match w.cell? ⟨b, 1, none⟩ with
  | some (.int _ n) => n.toNat
  | _ => 0
theorem htAt_cb {b : Nat} {t : TypeId} {M : Nd} {w : World} (h : Cb b t (ndc M) w) : htAt b w = M.height.toNat := by
  have : w.cell? ⟨b, 1, none⟩ = some (.int .i64 M.height) := h.cell 1
  unfold htAt
  rw [this]
/-- A node's variable holds the node of a tree that lies there. -/
structure Down (tb an cn : Nat) (A : ArS Nd) (C : ArS Ck) (b : Nat) (T : TC) (M : Nd) : Prop where
  inn : T.In Wc A C
  ne : T ≠ .nil
  nd : M = T.nd Wc
section
variable {D : Sv → Prop} {S : Nat → Prop} {tb an cn : Nat} {U V : Nat → Prop} {root : Int} {A A' : ArS Nd} {C C' : ArS Ck} {w w' : World}

set_option maxHeartbeats 1000000 in
theorem lastT_any (T : TC) (h : TrM D S tb an cn U V root A C w) (hT : T.In Wc A C) (hn : T ≠ .nil) :
    Calls Try.prog 68 #[.pointer (some ⟨tb, 0, none⟩), .int .i64 T.id] w fun e w' => ∃ M : Nd, e = .returned (ndv M) ∧ (∃ k : Nat, M.thing = (k : Nat) ∧ C.at_ k = some T.lastx) ∧ Below w.heap.size w w' := by
  have hb := (Below.refl w.heap.size w).alloc (Nat.le_refl _) (.cells ndz 102)
  have HAT := Lib.hid (fun (w' : World) (hb : Below w.heap.size w w') (T' : TC) (hT' : T'.In Wc A C) => at_any T' (h.below hb) hT')
  have B0 := Lib.hid hb
  have R0 := Lib.hid (cb_new w 102 ndz)
  obtain ⟨M0, hM0⟩ : ∃ M, T.nd Wc = M := ⟨_, rfl⟩
  have HA0 := Lib.hid (HAT.out _ hb T hT)
  rw [hM0] at HA0
  have HX : Hid (∃ T' : TC, T'.In Wc A C ∧ T' ≠ .nil ∧ M0 = T'.nd Wc ∧ T'.lastx = T.lastx) := Lib.hid ⟨T, hT, hn, hM0.symm, rfl⟩
  clear h hb hT hn hM0
  go_enter Try.func68, Try.ntmps68
  go_wp2_with (first
    | (go_at_call 51; refine HA0.out.mono ?_; rintro e w1 ⟨rfl, b1⟩; have R1 := Lib.hid ((R0.out.below b1).alloc (.cells ndz 102)); have B1 := Lib.hid ((below_add B0.out b1 B0.out.size).alloc (by have := B0.out.size; have := b1.size; omega) (.cells ndz 102)); have V1 := Lib.hid (cb_new w1 102 ndz); have Z1 := Lib.hid (show w.heap.size < w1.heap.size from Nat.lt_of_lt_of_le R0.out.lt b1.size); clear b1)
    | (refine wpList_store_row rfl 102 (.tmp 5) (.tmp 8) rfl w1.heap.size (ndc M0) rfl rfl _ _ V1.out (ninfo M0) rfl (none_n M0) ?_))
  obtain ⟨b5, hb5⟩ : ∃ b5, w1.heap.size = b5 := ⟨_, rfl⟩
  have ZB : Hid (w.heap.size < b5) := Lib.hid (hb5 ▸ Z1.out)
  have W2 := Lib.hid (show Cb w1.heap.size 102 (ndc M0) ((w1.alloc (.cells ndz 102)).setRow w1.heap.size (ndc M0)) ∧ Cb w.heap.size 102 ndz ((w1.alloc (.cells ndz 102)).setRow w1.heap.size (ndc M0)) ∧ Below w.heap.size w ((w1.alloc (.cells ndz 102)).setRow w1.heap.size (ndc M0)) from
    ⟨V1.out.set _, R1.out.other (by have := Z1.out; omega) _, below_row B1.out (by have := Z1.out; omega)⟩)
  clear V1 R1 B1 Z1 B0 R0 HA0
  refine with_worldT (fun W => Cb w1.heap.size 102 (ndc M0) W ∧ Cb w.heap.size 102 ndz W ∧ Below w.heap.size w W) W2.out fun W0 hW0 => ?_
  rw [hb5] at hW0
  refine Hid.out ?_
  rw [hb5]
  refine Lib.hid ?_
  have K0 := Lib.hid hW0
  clear W2 hW0 hb5
  go_frame
  go_loopw [10] (fun _ wr => Hid (∃ (T' : TC) (M : Nd), T'.In Wc A C ∧ T' ≠ .nil ∧ M = T'.nd Wc ∧ T'.lastx = T.lastx ∧ Cb b5 102 (ndc M) wr ∧ Cb w.heap.size 102 ndz wr ∧ Below w.heap.size w wr)) (fun _ wr => htAt b5 wr)
  case atStart =>
    obtain ⟨T', q1, q2, q3, q4⟩ := HX.out
    exact Lib.hid ⟨T', M0, q1, q2, q3, q4, K0.out.1, K0.out.2.1, K0.out.2.2⟩
  case round =>
    rename_i wr
    have H := hrel
    clear hrel
    obtain ⟨T', M, hi, hne, hM, he, hk5, hk4, hB⟩ := H.out
    have KM := Lib.hid hk5
    have KR := Lib.hid hk4
    have KB := Lib.hid hB
    have HME := Lib.hid (htAt_cb hk5)
    clear hk5 hk4 hB H HX K0
    cases T' with
    | nil => exact absurd rfl hne
    | leaf n t x =>
      have hd : decide ((1 : Int) < M.height) = false := by rw [hM]; rfl
      have HF := Lib.hid (fun w => isfork_any M w)
      rw [hd] at HF
      have HTH : Hid (∃ k : Nat, M.thing = (k : Nat) ∧ C.at_ k = some T.lastx) := Lib.hid ⟨t, by rw [hM]; rfl, by rw [← he]; exact hi.2.1⟩
      clear hi hne hM he hd HME HAT
      go_wp2_with (first
        | (refine wpList_load_roww 102 (.tmp 5) rfl b5 rfl (by rfl) _ _ _ _ KM.out Try.underlying102 rfl (ninfo M) ?_)
        | (go_at_call 57; refine (HF.out _).mono ?_; clear HF; rintro e w3 ⟨rfl, b3⟩; have KM3 := Lib.hid (KM.out.below b3); have KR3 := Lib.hid (KR.out.below b3); have KB3 := Lib.hid (below_add KB.out b3 KB.out.size); clear b3 KM)
        | (refine wpList_load_roww 102 (.tmp 5) rfl b5 rfl (by rfl) _ _ _ _ KM3.out Try.underlying102 rfl (ninfo M) ?_)
        | (refine wpList_store_row rfl 102 (.tmp 4) (.tmp 15) rfl w.heap.size (ndc M) rfl rfl _ _ KR3.out (ninfo M) rfl (none_n M) ?_))
      exact bodyPost_ret (results_cell_row Try.results68 _ _ _ _ _ _ _ rfl (KR3.out.set (ndc M)) Try.underlying102 rfl (ninfo M)) rfl ⟨M, rfl, HTH.out, below_row KB3.out (Nat.le_refl _)⟩
    | fork n l r =>
      have hh : 2 ≤ (Tr.fork n l r).ht := hi.fork_ht
      have hd : decide ((1 : Int) < M.height) = true := by rw [hM, Tr.nd_height]; exact decide_eq_true (by omega)
      have HF := Lib.hid (fun w => isfork_any M w)
      rw [hd] at HF
      have hid : M.right = r.id := by rw [hM]; rfl
      obtain ⟨M2, hM2⟩ : ∃ M2, r.nd Wc = M2 := ⟨_, rfl⟩
      have HA2 := Lib.hid (fun w' hb => HAT.out w' hb r hi.2.2.2.2)
      rw [hM2] at HA2
      have HX2 : Hid (∃ (T' : TC), T'.In Wc A C ∧ T' ≠ .nil ∧ M2 = T'.nd Wc ∧ T'.lastx = T.lastx) := Lib.hid ⟨r, hi.2.2.2.2, hi.2.2.1, hM2.symm, by rw [← he]; rfl⟩
      have HLT : Hid (M2.height.toNat < M.height.toNat) := Lib.hid (by rw [hM, ← hM2, Tr.nd_height, Tr.nd_height]; simp only [Tr.ht]; omega)
      have HID := Lib.hid hid
      clear hi hne hM he hd hh hid hM2 HAT
      go_wp2_with (first
        | (refine wpList_load_roww 102 (.tmp 5) rfl b5 rfl (by rfl) _ _ _ _ KM.out Try.underlying102 rfl (ninfo M) ?_)
        | (go_at_call 57; refine (HF.out _).mono ?_; clear HF; rintro e w3 ⟨rfl, b3⟩; have KM3 := Lib.hid (KM.out.below b3); have KR3 := Lib.hid (KR.out.below b3); have KB3 := Lib.hid (below_add KB.out b3 KB.out.size); clear b3; have c5 : w3.cell? ⟨b5, 5, none⟩ = some (Value.int .i64 r.id) := by have := KM3.out.cell 5; rw [← HID.out]; exact this)
        | (go_at_call 51; refine (HA2.out _ KB3.out).mono ?_; clear HA2; rintro e w4 ⟨rfl, b4⟩; have KM4 := Lib.hid (KM3.out.below b4); have KR4 := Lib.hid (KR3.out.below b4); have KB4 := Lib.hid (below_add KB3.out b4 KB3.out.size); clear b4 c5)
        | (refine wpList_store_row rfl 102 (.tmp 5) (.tmp 14) rfl b5 (ndc M2) rfl rfl _ _ KM4.out (ninfo M2) rfl (none_n M2) ?_))
      go_frame
      go_roundw
      case rel =>
        obtain ⟨T2, q1, q2, q3, q4⟩ := HX2.out
        exact Lib.hid ⟨T2, M2, q1, q2, q3, q4, KM4.out.set _, KR4.out.other (by have := ZB.out; omega) _, below_row KB4.out (by have := ZB.out; omega)⟩
      case measure =>
        rw [htAt_cb (KM4.out.set (ndc M2)), HME.out]; exact HLT.out

set_option maxHeartbeats 1000000 in
theorem firstT_any (T : TC) (h : TrM D S tb an cn U V root A C w) (hT : T.In Wc A C) (hn : T ≠ .nil) :
    Calls Try.prog 69 #[.pointer (some ⟨tb, 0, none⟩), .int .i64 T.id] w fun e w' => ∃ M : Nd, e = .returned (ndv M) ∧ (∃ k : Nat, M.thing = (k : Nat) ∧ C.at_ k = some T.firstx) ∧ Below w.heap.size w w' := by
  have hb := (Below.refl w.heap.size w).alloc (Nat.le_refl _) (.cells ndz 102)
  have HAT := Lib.hid (fun (w' : World) (hb : Below w.heap.size w w') (T' : TC) (hT' : T'.In Wc A C) => at_any T' (h.below hb) hT')
  have B0 := Lib.hid hb
  have R0 := Lib.hid (cb_new w 102 ndz)
  obtain ⟨M0, hM0⟩ : ∃ M, T.nd Wc = M := ⟨_, rfl⟩
  have HA0 := Lib.hid (HAT.out _ hb T hT)
  rw [hM0] at HA0
  have HX : Hid (∃ T' : TC, T'.In Wc A C ∧ T' ≠ .nil ∧ M0 = T'.nd Wc ∧ T'.firstx = T.firstx) := Lib.hid ⟨T, hT, hn, hM0.symm, rfl⟩
  clear h hb hT hn hM0
  go_enter Try.func69, Try.ntmps69
  go_wp2_with (first
    | (go_at_call 51; refine HA0.out.mono ?_; rintro e w1 ⟨rfl, b1⟩; have R1 := Lib.hid ((R0.out.below b1).alloc (.cells ndz 102)); have B1 := Lib.hid ((below_add B0.out b1 B0.out.size).alloc (by have := B0.out.size; have := b1.size; omega) (.cells ndz 102)); have V1 := Lib.hid (cb_new w1 102 ndz); have Z1 := Lib.hid (show w.heap.size < w1.heap.size from Nat.lt_of_lt_of_le R0.out.lt b1.size); clear b1)
    | (refine wpList_store_row rfl 102 (.tmp 5) (.tmp 8) rfl w1.heap.size (ndc M0) rfl rfl _ _ V1.out (ninfo M0) rfl (none_n M0) ?_))
  obtain ⟨b5, hb5⟩ : ∃ b5, w1.heap.size = b5 := ⟨_, rfl⟩
  have ZB : Hid (w.heap.size < b5) := Lib.hid (hb5 ▸ Z1.out)
  have W2 := Lib.hid (show Cb w1.heap.size 102 (ndc M0) ((w1.alloc (.cells ndz 102)).setRow w1.heap.size (ndc M0)) ∧ Cb w.heap.size 102 ndz ((w1.alloc (.cells ndz 102)).setRow w1.heap.size (ndc M0)) ∧ Below w.heap.size w ((w1.alloc (.cells ndz 102)).setRow w1.heap.size (ndc M0)) from
    ⟨V1.out.set _, R1.out.other (by have := Z1.out; omega) _, below_row B1.out (by have := Z1.out; omega)⟩)
  clear V1 R1 B1 Z1 B0 R0 HA0
  refine with_worldT (fun W => Cb w1.heap.size 102 (ndc M0) W ∧ Cb w.heap.size 102 ndz W ∧ Below w.heap.size w W) W2.out fun W0 hW0 => ?_
  rw [hb5] at hW0
  refine Hid.out ?_
  rw [hb5]
  refine Lib.hid ?_
  have K0 := Lib.hid hW0
  clear W2 hW0 hb5
  go_frame
  go_loopw [10] (fun _ wr => Hid (∃ (T' : TC) (M : Nd), T'.In Wc A C ∧ T' ≠ .nil ∧ M = T'.nd Wc ∧ T'.firstx = T.firstx ∧ Cb b5 102 (ndc M) wr ∧ Cb w.heap.size 102 ndz wr ∧ Below w.heap.size w wr)) (fun _ wr => htAt b5 wr)
  case atStart =>
    obtain ⟨T', q1, q2, q3, q4⟩ := HX.out
    exact Lib.hid ⟨T', M0, q1, q2, q3, q4, K0.out.1, K0.out.2.1, K0.out.2.2⟩
  case round =>
    rename_i wr
    have H := hrel
    clear hrel
    obtain ⟨T', M, hi, hne, hM, he, hk5, hk4, hB⟩ := H.out
    have KM := Lib.hid hk5
    have KR := Lib.hid hk4
    have KB := Lib.hid hB
    have HME := Lib.hid (htAt_cb hk5)
    clear hk5 hk4 hB H HX K0
    cases T' with
    | nil => exact absurd rfl hne
    | leaf n t x =>
      have hd : decide ((1 : Int) < M.height) = false := by rw [hM]; rfl
      have HF := Lib.hid (fun w => isfork_any M w)
      rw [hd] at HF
      have HTH : Hid (∃ k : Nat, M.thing = (k : Nat) ∧ C.at_ k = some T.firstx) := Lib.hid ⟨t, by rw [hM]; rfl, by rw [← he]; exact hi.2.1⟩
      clear hi hne hM he hd HME HAT
      go_wp2_with (first
        | (refine wpList_load_roww 102 (.tmp 5) rfl b5 rfl (by rfl) _ _ _ _ KM.out Try.underlying102 rfl (ninfo M) ?_)
        | (go_at_call 57; refine (HF.out _).mono ?_; clear HF; rintro e w3 ⟨rfl, b3⟩; have KM3 := Lib.hid (KM.out.below b3); have KR3 := Lib.hid (KR.out.below b3); have KB3 := Lib.hid (below_add KB.out b3 KB.out.size); clear b3 KM)
        | (refine wpList_load_roww 102 (.tmp 5) rfl b5 rfl (by rfl) _ _ _ _ KM3.out Try.underlying102 rfl (ninfo M) ?_)
        | (refine wpList_store_row rfl 102 (.tmp 4) (.tmp 15) rfl w.heap.size (ndc M) rfl rfl _ _ KR3.out (ninfo M) rfl (none_n M) ?_))
      exact bodyPost_ret (results_cell_row Try.results69 _ _ _ _ _ _ _ rfl (KR3.out.set (ndc M)) Try.underlying102 rfl (ninfo M)) rfl ⟨M, rfl, HTH.out, below_row KB3.out (Nat.le_refl _)⟩
    | fork n l r =>
      have hh : 2 ≤ (Tr.fork n l r).ht := hi.fork_ht
      have hd : decide ((1 : Int) < M.height) = true := by rw [hM, Tr.nd_height]; exact decide_eq_true (by omega)
      have HF := Lib.hid (fun w => isfork_any M w)
      rw [hd] at HF
      have hid : M.left = l.id := by rw [hM]; rfl
      obtain ⟨M2, hM2⟩ : ∃ M2, l.nd Wc = M2 := ⟨_, rfl⟩
      have HA2 := Lib.hid (fun w' hb => HAT.out w' hb l hi.2.2.2.1)
      rw [hM2] at HA2
      have HX2 : Hid (∃ (T' : TC), T'.In Wc A C ∧ T' ≠ .nil ∧ M2 = T'.nd Wc ∧ T'.firstx = T.firstx) := Lib.hid ⟨l, hi.2.2.2.1, hi.2.1, hM2.symm, by rw [← he]; rfl⟩
      have HLT : Hid (M2.height.toNat < M.height.toNat) := Lib.hid (by rw [hM, ← hM2, Tr.nd_height, Tr.nd_height]; simp only [Tr.ht]; omega)
      have HID := Lib.hid hid
      clear hi hne hM he hd hh hid hM2 HAT
      go_wp2_with (first
        | (refine wpList_load_roww 102 (.tmp 5) rfl b5 rfl (by rfl) _ _ _ _ KM.out Try.underlying102 rfl (ninfo M) ?_)
        | (go_at_call 57; refine (HF.out _).mono ?_; clear HF; rintro e w3 ⟨rfl, b3⟩; have KM3 := Lib.hid (KM.out.below b3); have KR3 := Lib.hid (KR.out.below b3); have KB3 := Lib.hid (below_add KB.out b3 KB.out.size); clear b3; have c5 : w3.cell? ⟨b5, 4, none⟩ = some (Value.int .i64 l.id) := by have := KM3.out.cell 4; rw [← HID.out]; exact this)
        | (go_at_call 51; refine (HA2.out _ KB3.out).mono ?_; clear HA2; rintro e w4 ⟨rfl, b4⟩; have KM4 := Lib.hid (KM3.out.below b4); have KR4 := Lib.hid (KR3.out.below b4); have KB4 := Lib.hid (below_add KB3.out b4 KB3.out.size); clear b4 c5)
        | (refine wpList_store_row rfl 102 (.tmp 5) (.tmp 14) rfl b5 (ndc M2) rfl rfl _ _ KM4.out (ninfo M2) rfl (none_n M2) ?_))
      go_frame
      go_roundw
      case rel =>
        obtain ⟨T2, q1, q2, q3, q4⟩ := HX2.out
        exact Lib.hid ⟨T2, M2, q1, q2, q3, q4, KM4.out.set _, KR4.out.other (by have := ZB.out; omega) _, below_row KB4.out (by have := ZB.out; omega)⟩
      case measure =>
        rw [htAt_cb (KM4.out.set (ndc M2)), HME.out]; exact HLT.out
end
end Go.Proofs.Yteodfbkfpboehaa
