
import Derived.Test.YteodfbkfpboehaaDX
/- DY: the thing at a place -/
namespace Go.Proofs.Yteodfbkfpboehaa
open Go.RowKit
set_option linter.unusedVariables false
set_option maxRecDepth 100000

/-- What was looked for, and found. -/
def Sk (r : Int → List Ck → Bool) (l : List Ck) (i : Int) (cx : Array Value) (a b : Nat) : Prop :=
  ∃ (x : Ck) (pre post : List Ck), krow x = cx ∧ Wc.ln pre = a ∧ mk0 pre = b ∧ l = pre ++ (x.l ++ post) ∧ (pre = [] ∨ r i pre = false) ∧ (post = [] ∨ r i (pre ++ x.l) = true)
/-- The thing x is at the place k, behind those of pre. -/
def HitAt (L : List Ck) (k : Nat) (x : Ck) (pre : List Ck) : Prop := ∃ post, L = pre ++ x :: post ∧ lnS pre ≤ k ∧ k < lnS pre + x.n
section
variable {l : List Ck} {k : Nat} {cx : Array Value} {a b : Nat}
theorem sk_at (h : Sk rA l (k : Nat) cx a b) (hk : k < lnS l) : a ≤ k ∧ ∃ (x : Ck) (pre : List Ck), krow x = cx ∧ a = lnS pre ∧ HitAt l k x pre := by
  obtain ⟨x, pre, post, h1, rfl, rfl, rfl, h2, h3⟩ := h
  have ha : lnS pre ≤ k := by
    rcases h2 with rfl | h2
    · exact Nat.zero_le _
    · unfold rA at h2; have h2 := of_decide_eq_false h2; have : ¬ ((k : Nat) : Int) < ((lnS pre : Nat) : Int) := h2; omega
  have hb : k < lnS pre + x.n := by
    rcases h3 with rfl | h3
    · rw [List.append_nil, lnS_app, lnS_l] at hk; exact hk
    · unfold rA at h3; have h3 := of_decide_eq_true h3; have h4 : ((k : Nat) : Int) < ((lnS (pre ++ x.l) : Nat) : Int) := h3; rw [lnS_app, lnS_l] at h4; omega
  have hx : x.l = [x] := by unfold Ck.l; rw [if_neg (by omega)]
  exact ⟨ha, x, pre, h1, rfl, post, by rw [hx]; rfl, ha, hb⟩
end
section
variable {Q : Nat} {D : Sv → Prop} {S : Nat → Prop} {tb : Nat} {w w' W : World}
theorem skA_any (R : TC) (i : Int) (cb : Nat) (h : Sq D Q S tb R.id [R] w) (hQ : Q ≤ 4000000000) (hc : Cb cb 3 #[.int .i64 i] w) :
    Calls Try.prog 37 #[.pointer (some ⟨tb, 0, none⟩), .func (.func 38) #[] #[.pointer (some ⟨cb, 0, none⟩)]] w fun e w' => ∃ (cx : Array Value) (a b : Nat), e = .returned (.tuple #[.agg cx, .agg #[.int .i64 (a : Nat), .int .i64 (b : Nat)]]) ∧ cx.size = 2 ∧ cx.all (·.oneCell') = true ∧ Sk rA (R.el Wc) i cx a b ∧ Below w.heap.size w w' := by
  refine (seekA_any R i cb h hQ hc).mono ?_
  rintro e w' ⟨x, pre, post, rfl, q1, q2, q3, q4⟩
  exact ⟨_, _, _, rfl, xc_size x, krow_one x, ⟨x, pre, post, rfl, rfl, rfl, q1, q2, q3⟩, q4⟩
theorem sk_zero (w : World) (i : Int) : Cb w.heap.size 3 #[.int .i64 i] ((w.alloc (.cells #[.int .i64 i] 3)).alloc (.cells czr 61)) ∧ Cb (w.heap.size + 1) 61 czr ((w.alloc (.cells #[.int .i64 i] 3)).alloc (.cells czr 61)) ∧ Below w.heap.size w ((w.alloc (.cells #[.int .i64 i] 3)).alloc (.cells czr 61)) := by
  refine ⟨(cb_new w _ _).alloc _, ?_, ((Below.refl _ w).alloc (Nat.le_refl _) _).alloc (by simp) _⟩
  have := cb_new (w.alloc (.cells #[.int .i64 i] 3)) 61 czr
  rwa [World.size_alloc] at this
set_option maxHeartbeats 1000000 in
theorem treeAt_any (R : TC) (k : Nat) (h : Sq D Q S tb R.id [R] w) (hQ : Q ≤ 4000000000) (hk : k < Wc.ln (R.el Wc)) :
    Calls Try.prog 25 #[.pointer (some ⟨tb, 0, none⟩), .int .i64 (k : Nat)] w fun e w' => ∃ (x : Ck) (j : Int) (pre : List Ck), e = .returned (.tuple #[cvs x, .int .i64 j]) ∧ HitAt (R.el Wc) k x pre ∧ Below w.heap.size w w' := by
  have hlen := (h.ht hQ R List.mem_cons_self).2
  have HK := Lib.hid (And.intro hk hlen)
  have HSK := Lib.hid (fun (w' : World) (hb : Below w.heap.size w w') (hc : Cb w.heap.size 3 #[.int .i64 (k : Nat)] w') => skA_any R (k : Nat) w.heap.size (h.below hb) hQ hc)
  clear h hQ hk hlen
  go_enter Try.func25, Try.ntmps25
  go_upto_region 1 with fail
  refine with_worldT (fun W => Cb w.heap.size 3 #[.int .i64 (k : Nat)] W ∧ Cb (w.heap.size + 1) 61 czr W ∧ Below w.heap.size w W) (sk_zero w (k : Nat)) fun W0 hW0 => ?_
  have K0 := Lib.hid hW0.1
  have R0 := Lib.hid hW0.2.1
  have B0 := Lib.hid hW0.2.2
  clear hW0
  go_wp2_with (first
    | (go_at_call 37; refine (HSK.out _ B0.out K0.out).mono ?_; clear HSK; rintro e w1 ⟨cx, a, b, rfl, sx, ox, sk, b1⟩; have SX := Lib.hid sx; have OX := Lib.hid ox; have SK := Lib.hid (sk_at sk HK.out.1); have K1 := Lib.hid ((K0.out.below b1).alloc (.cells #[.int .i64 0, .int .i64 0] 74)); have R1 := Lib.hid ((R0.out.below b1).alloc (.cells #[.int .i64 0, .int .i64 0] 74)); have B1 := Lib.hid ((below_add B0.out b1 B0.out.size).alloc (by have := B0.out.size; have := b1.size; omega) (.cells #[.int .i64 0, .int .i64 0] 74)); have V1 := Lib.hid (cb_new w1 74 #[.int .i64 0, .int .i64 0]); have Z1 := Lib.hid (show w.heap.size + 1 < w1.heap.size from Nat.lt_of_lt_of_le R0.out.lt b1.size); clear b1 sx ox sk)
    | (refine wpList_store_row rfl 61 (.tmp 4) (.tmp 11) rfl (w.heap.size + 1) cx rfl rfl _ _ R1.out (xinfo SX.out) (by rw [SX.out]; exact xz_size) OX.out ?_)
    | (refine wpList_store_row rfl 74 (.tmp 6) (.tmp 12) rfl w1.heap.size #[.int .i64 (a : Nat), .int .i64 (b : Nat)] rfl rfl _ _ (V1.out.other (c := w.heap.size + 1) (by have := Z1.out; omega) cx) (zinfo _ _) rfl (zone2 _ _) ?_))
  have u0 := SK.out.1
  have u9 := HK.out.1
  have u8 := HK.out.2.1
  have u1 : 0 ≤ ((k : Nat) : Int) - ((a : Nat) : Int) := by omega
  have u2 : ((k : Nat) : Int) - ((a : Nat) : Int) ≤ 4000000000 := by omega
  clear u0 u9 u8
  obtain ⟨b6, hb6⟩ : ∃ b6, w1.heap.size = b6 := ⟨_, rfl⟩
  have W2 := Lib.hid (show Cb w.heap.size 3 #[.int .i64 (k : Nat)] ((((w1.alloc (.cells #[.int .i64 0, .int .i64 0] 74)).setRow (w.heap.size + 1) cx)).setRow w1.heap.size #[.int .i64 (a : Nat), .int .i64 (b : Nat)]) ∧ Cb w1.heap.size 74 #[.int .i64 (a : Nat), .int .i64 (b : Nat)] ((((w1.alloc (.cells #[.int .i64 0, .int .i64 0] 74)).setRow (w.heap.size + 1) cx)).setRow w1.heap.size #[.int .i64 (a : Nat), .int .i64 (b : Nat)]) ∧ Cb (w.heap.size + 1) 61 cx ((((w1.alloc (.cells #[.int .i64 0, .int .i64 0] 74)).setRow (w.heap.size + 1) cx)).setRow w1.heap.size #[.int .i64 (a : Nat), .int .i64 (b : Nat)]) ∧ Below w.heap.size w ((((w1.alloc (.cells #[.int .i64 0, .int .i64 0] 74)).setRow (w.heap.size + 1) cx)).setRow w1.heap.size #[.int .i64 (a : Nat), .int .i64 (b : Nat)]) from
    ⟨(K1.out.other (by omega) _).other (by have := Z1.out; omega) _, (V1.out.other (by have := Z1.out; omega) _).set _, (R1.out.set _).other (by have := Z1.out; omega) _, below_row (below_row B1.out (by omega)) (by have := Z1.out; omega)⟩)
  refine with_worldT (fun W => Cb w.heap.size 3 #[.int .i64 (k : Nat)] W ∧ Cb w1.heap.size 74 #[.int .i64 (a : Nat), .int .i64 (b : Nat)] W ∧ Cb (w.heap.size + 1) 61 cx W ∧ Below w.heap.size w W) W2.out fun W1 hW1 => ?_
  have K_0 := Lib.hid (show Cb w.heap.size 3 #[.int .i64 (k : Nat)] W1.drew ∧ Cb w1.heap.size 74 #[.int .i64 (a : Nat), .int .i64 (b : Nat)] W1.drew from ⟨hW1.1.below (below_drew _), hW1.2.1.below (below_drew _)⟩)
  have R_0 := Lib.hid (hW1.2.2.1.below (below_drew _))
  have B_0 := Lib.hid hW1.2.2.2.drew
  have Z2 := Lib.hid Z1.out
  clear W2 hW1 K1 R1 V1 B1 K0 R0 B0 Z1
  refine Hid.out ?_
  rw [hb6] at K_0 Z2 ⊢
  refine Lib.hid ?_
  clear hb6
  go_frame
  refine h_start (S := fun W => (Cb w.heap.size 3 #[.int .i64 (k : Nat)] W ∧ Cb b6 74 #[.int .i64 (a : Nat), .int .i64 (b : Nat)] W) ∧ Cb (w.heap.size + 1) 61 cx W) (by kernel_rfl) ?_
  refine h_val (i := 0) (v := .agg cx) rfl (by kernel_rfl) (by kernel_rfl) (by kernel_rfl) (fun _ _ _ h => h) (by rfl) (fun wz hS => ?_) ⟨K_0.out, R_0.out⟩ ?_
  · exact ex_load_row 61 (.tmp 4) rfl (w.heap.size + 1) rfl _ cx _ _ hS.2 Try.underlying61 rfl (xinfo SX.out)
  go_frame
  refine h_val (i := 1) (v := .int .i64 (k : Nat)) rfl (by kernel_rfl) (by kernel_rfl) (by kernel_rfl) (fun _ _ _ h => h) (by rfl) (fun wz hS => ?_) ⟨K_0.out, R_0.out⟩ ?_
  · have q := hS.1.1.cell 0
    go_simp
  go_frame
  refine h_val (i := 2) (v := .pointer (some ⟨b6, 0, none⟩)) rfl (by kernel_rfl) (by kernel_rfl) (by kernel_rfl) (fun _ _ _ h => h) (by rfl) (fun wz hS => ?_) ⟨K_0.out, R_0.out⟩ ?_
  · skip
    go_simp
  go_frame
  refine h_val (i := 3) (v := .int .i64 (a : Nat)) rfl (by kernel_rfl) (by kernel_rfl) (by kernel_rfl) (fun _ _ _ h => h) (by rfl) (fun wz hS => ?_) ⟨K_0.out, R_0.out⟩ ?_
  · have q := hS.1.2.cell 0
    go_simp
  go_frame
  refine h_val (i := 4) (v := .int .i64 (((k : Nat) : Int) - ((a : Nat) : Int))) rfl (by kernel_rfl) (by kernel_rfl) (by kernel_rfl) (fun _ _ _ h => h) (by rfl) (fun wz hS => ?_) ⟨K_0.out, R_0.out⟩ ?_
  · skip
    go_simp
    rw [IntKind.wrap_i64]; omega
  go_frame
  refine h_all1 (i := 5) (by kernel_rfl) ?_
  refine o_step rfl (by rfl) ?_
  refine wp_store_row 61 (.tmp 4) (.tmp 13) rfl (w.heap.size + 1) cx rfl rfl _ _ R_0.out (xinfo SX.out) rfl OX.out ?_
  have K_1 := Lib.hid (And.intro (K_0.out.1.other (c := w.heap.size + 1) (by omega) cx) (K_0.out.2.other (c := w.heap.size + 1) (by have := Z2.out; omega) cx))
  have R_1 := Lib.hid (R_0.out.set cx)
  have B_1 := Lib.hid (below_row (cs := cx) B_0.out (show w.heap.size ≤ w.heap.size + 1 by omega))
  refine ⟨⟨K_1.out, R_1.out⟩, ?_⟩
  go_frame
  refine h_val (i := 6) (v := .int .i64 (((k : Nat) : Int) - ((a : Nat) : Int))) rfl (by kernel_rfl) (by kernel_rfl) (by kernel_rfl) (fun _ _ _ h => h) (by rfl) (fun wz hS => ?_) ⟨K_1.out, R_1.out⟩ ?_
  · skip
    go_simp
  go_frame
  refine h_done (by kernel_rfl) ?_
  go_wp2
  obtain ⟨q1, x, pre, hx, hx2, hx3⟩ := SK.out
  exact bodyPost_ret (results_x_tmp (v := .int .i64 (((k : Nat) : Int) - ((a : Nat) : Int))) Try.results25 SX.out R_1.out _ rfl rfl) rfl ⟨x, _, pre, by unfold cvs; rw [hx], hx3, B_1.out⟩
end
end Go.Proofs.Yteodfbkfpboehaa
